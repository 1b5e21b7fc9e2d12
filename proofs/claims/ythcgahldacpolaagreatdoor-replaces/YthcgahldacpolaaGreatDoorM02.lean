set_option maxRecDepth 100000
set_option maxHeartbeats 8000000
namespace Go.Proofs.YthcgahldacpolaaGreatDoor.Gf
variable {x y a b:Nat}
def tx (a:Nat):Nat:=if a < 128 then 2*a else (2*a - 256)^^^29
def gmf:Nat→Nat→Nat→Nat→Nat
 | 0,_,_,p=>p
 | n+1,a,b,p=>gmf n (tx a) (b / 2) (if b % 2=1 then p^^^a else p)
def gm (a b:Nat):Nat:=gmf 8 a b 0
def gif:Nat→Nat→Nat→Nat
 | 0,_,v=>v
 | n+1,p,v=>gif n (gm p p) (gm v (gm p p))
def gi (a:Nat):Nat:=gif 7 a 1
theorem xlt (hx:x < 256) (hy:y < 256):x^^^y < 256:=Nat.xor_lt_two_pow (n:=8) hx hy
theorem tx_lt (h:a < 256):tx a < 256:=by
 unfold tx;split
 · omega
 · exact xlt (by omega) (by decide)
theorem gmf_lt (n:Nat):∀ a b p,a < 256→p < 256→gmf n a b p < 256:=by
 induction n with
 | zero=>intro a b p _ hp;exact hp
 | succ n ih=>
  intro a b p ha hp
  unfold gmf
  refine ih _ _ _ (tx_lt ha) ?_
  split
  · exact xlt hp ha
  · exact hp
theorem gm_lt (b:Nat) (ha:a < 256):gm a b < 256:=gmf_lt 8 a b 0 ha (by decide)
theorem gif_lt (n:Nat):∀ p v,p < 256→v < 256→gif n p v < 256:=by
 induction n with
 | zero=>intro p v _ hv;exact hv
 | succ n ih=>intro p v hp hv;unfold gif;exact ih _ _ (gm_lt _ hp) (gm_lt _ hv)
theorem gi_lt (h:a < 256):gi a < 256:=gif_lt 7 a 1 h (by decide)
theorem xor_two_mul (x y:Nat):2*(x^^^y)=(2*x)^^^(2*y):=by
 have:=Nat.shiftLeft_xor_distrib (a:=x) (b:=y) (i:=1)
 simp only [Nat.shiftLeft_eq,Nat.pow_one] at this
 rw [Nat.mul_comm,this,Nat.mul_comm x,Nat.mul_comm y]
theorem xor_div2 (x y:Nat):(x^^^y) / 2=(x / 2)^^^(y / 2):=Nat.xor_div_two
theorem xor_mod2 (x y:Nat):(x^^^y) % 2=(x % 2+y % 2) % 2:=by
 have h:=Nat.xor_mod_two_pow (a:=x) (b:=y) (n:=1)
 simp only [Nat.pow_one] at h
 rw [h]
 have hx:=Nat.mod_two_eq_zero_or_one x
 have hy:=Nat.mod_two_eq_zero_or_one y
 rcases hx with hx | hx <;> rcases hy with hy | hy <;> rw [hx,hy] <;> rfl
theorem xor4 (a b c d:Nat):(a^^^b)^^^(c^^^d)=(a^^^c)^^^(b^^^d):=by
 rw [Nat.xor_assoc,Nat.xor_assoc,← Nat.xor_assoc b c d,Nat.xor_comm b c,Nat.xor_assoc c b d]
theorem tx_eq:∀ a,a < 256→tx a=(2*a) % 256^^^(if a / 128 % 2=1 then 29 else 0):=by decide +kernel
theorem hi_xor (x y:Nat):(x^^^y) / 128 % 2=(x / 128 % 2+y / 128 % 2) % 2:=by
 have:(x^^^y) / 128=(x / 128)^^^(y / 128):=Nat.xor_div_two_pow (n:=7)
 rw [this];exact xor_mod2 _ _
theorem tx_xor (hx:x < 256) (hy:y < 256):tx (x^^^y)=tx x^^^tx y:=by
 rw [tx_eq _ (xlt hx hy),tx_eq _ hx,tx_eq _ hy,xor4,xor_two_mul]
 have h:=Nat.xor_mod_two_pow (a:=2*x) (b:=2*y) (n:=8)
 have e:(2:Nat)^8=256:=rfl
 rw [e] at h
 rw [h,hi_xor]
 congr 1
 have hx:=Nat.mod_two_eq_zero_or_one (x / 128)
 have hy:=Nat.mod_two_eq_zero_or_one (y / 128)
 rcases hx with hx | hx <;> rcases hy with hy | hy <;> rw [hx,hy] <;> rfl
theorem gmf_xor_b (n:Nat):∀ a b c p q,gmf n a (b^^^c) (p^^^q)=gmf n a b p^^^gmf n a c q:=by
 induction n with
 | zero=>intro a b c p q;rfl
 | succ n ih=>
  intro a b c p q
  simp only [gmf]
  rw [xor_div2,← ih,xor_mod2]
  congr 1
  have hx:=Nat.mod_two_eq_zero_or_one b
  have hy:=Nat.mod_two_eq_zero_or_one c
  rcases hx with hx | hx <;> rcases hy with hy | hy <;> rw [hx,hy] <;> simp
  · rw [Nat.xor_assoc]
  · rw [Nat.xor_assoc,Nat.xor_comm q a,← Nat.xor_assoc]
  · rw [xor4,Nat.xor_self,Nat.xor_zero]
theorem gmf_xor_a (n:Nat):∀ a d b p q,a < 256→d < 256→gmf n (a^^^d) b (p^^^q)=gmf n a b p^^^gmf n d b q:=by
 induction n with
 | zero=>intro a d b p q _ _;rfl
 | succ n ih=>
  intro a d b p q ha hd
  simp only [gmf]
  rw [tx_xor ha hd,← ih _ _ _ _ _ (tx_lt ha) (tx_lt hd)]
  congr 1
  by_cases h:b % 2=1
  · simp only [h,if_true];exact xor4 _ _ _ _
  · simp only [h,if_false]
theorem gm_add (a b c:Nat):gm a (b^^^c)=gm a b^^^gm a c:=gmf_xor_b 8 a b c 0 0
theorem add_gm {d:Nat} (b:Nat) (ha:a < 256) (hd:d < 256):gm (a^^^d) b=gm a b^^^gm d b:=gmf_xor_a 8 a d b 0 0 ha hd
theorem spell:∀ x,x < 256→x=(if x % 2=1 then 1 else 0)^^^((if x / 2 % 2=1 then 2 else 0)^^^((if x / 4 % 2=1 then 4 else 0)^^^((if x / 8 % 2=1 then 8 else 0)^^^((if x / 16 % 2=1 then 16 else 0)^^^((if x / 32 % 2=1 then 32 else 0)^^^((if x / 64 % 2=1 then 64 else 0)^^^(if x / 128 % 2=1 then 128 else 0))))))):=by
 decide +kernel
theorem additive_ext (f g:Nat→Nat) (hf:∀ x y,x < 256→y < 256→f (x^^^y)=f x^^^f y) (hg:∀ x y,x < 256→y < 256→g (x^^^y)=g x^^^g y)
 (h:∀ i,i < 8→f (2^i)=g (2^i)) (x:Nat) (hx:x < 256):f x=g x:=by
 have f0:f 0=0:=by have:=hf 0 0 (by decide) (by decide);rw [Nat.xor_self,Nat.xor_self] at this;exact this
 have g0:g 0=0:=by have:=hg 0 0 (by decide) (by decide);rw [Nat.xor_self,Nat.xor_self] at this;exact this
 have one:∀ (c:Prop) [Decidable c] (i:Nat),i < 8→f (if c then 2^i else 0)=g (if c then 2^i else 0):=by
  intro c _ i hi;split
  · exact h i hi
  · rw [f0,g0]
 have lt:∀ (c:Prop) [Decidable c] (i:Nat),i < 8→(if c then 2^i else 0) < 256:=by
  intro c _ i hi;split
  · exact Nat.lt_of_lt_of_le (Nat.pow_lt_pow_right (by decide) hi) (by decide)
  · decide
 have st:∀ (c:Prop) [Decidable c] (i y:Nat),i < 8→y < 256→f y=g y→f ((if c then 2^i else 0)^^^y)=g ((if c then 2^i else 0)^^^y):=by
  intro c _ i y hi hy e
  rw [hf _ _ (lt c i hi) hy,hg _ _ (lt c i hi) hy,one c i hi,e]
 have l7:=lt (x / 128 % 2=1) 7 (by decide)
 have l6:=xlt (lt (x / 64 % 2=1) 6 (by decide)) l7
 have l5:=xlt (lt (x / 32 % 2=1) 5 (by decide)) l6
 have l4:=xlt (lt (x / 16 % 2=1) 4 (by decide)) l5
 have l3:=xlt (lt (x / 8 % 2=1) 3 (by decide)) l4
 have l2:=xlt (lt (x / 4 % 2=1) 2 (by decide)) l3
 have l1:=xlt (lt (x / 2 % 2=1) 1 (by decide)) l2
 have e7:=one (x / 128 % 2=1) 7 (by decide)
 have e6:=st (x / 64 % 2=1) 6 _ (by decide) l7 e7
 have e5:=st (x / 32 % 2=1) 5 _ (by decide) l6 e6
 have e4:=st (x / 16 % 2=1) 4 _ (by decide) l5 e5
 have e3:=st (x / 8 % 2=1) 3 _ (by decide) l4 e4
 have e2:=st (x / 4 % 2=1) 2 _ (by decide) l3 e3
 have e1:=st (x / 2 % 2=1) 1 _ (by decide) l2 e2
 have e0:=st (x % 2=1) 0 _ (by decide) l1 e1
 have s:=spell x hx
 simp only [Nat.reducePow] at e0
 rw [← s] at e0
 exact e0
theorem basis_comm:∀ i,i < 8→∀ j,j < 8→gm (2^i) (2^j)=gm (2^j) (2^i):=by decide +kernel
theorem basis_assoc:∀ i,i < 8→∀ j,j < 8→∀ k,k < 8→gm (gm (2^i) (2^j)) (2^k)=gm (2^i) (gm (2^j) (2^k)):=by decide +kernel
theorem pow_lt {i:Nat} (hi:i < 8):2^i < 256:=Nat.lt_of_lt_of_le (Nat.pow_lt_pow_right (by decide) hi) (by decide)
theorem gm_comm (ha:a < 256) (hb:b < 256):gm a b=gm b a:=by
 refine additive_ext (fun x=>gm a x) (fun x=>gm x a) (fun x y _ _=>gm_add a x y) (fun x y hx hy=>add_gm a hx hy) (fun i hi=>?_) b hb
 refine additive_ext (fun x=>gm x (2^i)) (fun x=>gm (2^i) x) (fun x y hx hy=>add_gm _ hx hy) (fun x y _ _=>gm_add _ x y) (fun j hj=>?_) a ha
 exact basis_comm j hj i hi
theorem gm_assoc {c:Nat} (ha:a < 256) (hb:b < 256) (hc:c < 256):gm (gm a b) c=gm a (gm b c):=by
 refine additive_ext (fun x=>gm (gm x b) c) (fun x=>gm x (gm b c)) (fun x y hx hy=>?_) (fun x y hx hy=>add_gm _ hx hy) (fun i hi=>?_) a ha
 · show gm (gm (x^^^y) b) c=_
   rw [add_gm _ hx hy,add_gm _ (gm_lt _ hx) (gm_lt _ hy)]
 refine additive_ext (fun x=>gm (gm (2^i) x) c) (fun x=>gm (2^i) (gm x c)) (fun x y hx hy=>?_) (fun x y hx hy=>?_) (fun j hj=>?_) b hb
 · show gm (gm (2^i) (x^^^y)) c=_
   rw [gm_add,add_gm _ (gm_lt _ (pow_lt hi)) (gm_lt _ (pow_lt hi))]
 · show gm (2^i) (gm (x^^^y) c)=_
   rw [add_gm _ hx hy,gm_add]
 refine additive_ext (fun x=>gm (gm (2^i) (2^j)) x) (fun x=>gm (2^i) (gm (2^j) x)) (fun x y _ _=>gm_add _ x y) (fun x y _ _=>?_) (fun k hk=>?_) c hc
 · show gm (2^i) (gm (2^j) (x^^^y))=_
   rw [gm_add,gm_add]
 exact basis_assoc i hi j hj k hk
theorem gm_one:∀ a,a < 256→gm a 1=a:=by decide +kernel
theorem gm_gi:∀ a,a < 256→a≠0→gm a (gi a)=1:=by decide +kernel
theorem gi_zero:gi 0=0:=by decide +kernel
theorem gm_zero (a:Nat):gm a 0=0:=by have:=gm_add a 0 0;rw [Nat.xor_self,Nat.xor_self] at this;exact this
theorem zero_gm (b:Nat):gm 0 b=0:=by have:=add_gm (a:=0) (d:=0) b (by decide) (by decide);rw [Nat.xor_self,Nat.xor_self] at this;exact this
theorem gi_unique (ha:a < 256) (hb:b < 256) (h:gm a b=1):b=gi a:=by
 have h0:a≠0:=by intro e;rw [e,zero_gm] at h;exact absurd h (by decide)
 have hi:=gi_lt ha
 have e1:=gm_assoc hi ha hb
 rw [h,gm_one _ hi,gm_comm hi ha,gm_gi a ha h0,gm_comm (by decide) hb,gm_one b hb] at e1
 exact e1
def pm (a b:Nat):Nat→Nat
 | 0=>0
 | n+1=>if b / 2^n % 2=1 then pm a b n^^^(a*2^n) else pm a b n
def rd:Nat→Nat→Nat
 | 0,p=>p
 | k+1,p=>rd k (if p / 2^(k+8) % 2=1 then p^^^(285*2^k) else p)
theorem bit_xor (x y n:Nat):(x^^^y) / 2^n % 2=(x / 2^n % 2+y / 2^n % 2) % 2:=by
 rw [Nat.xor_div_two_pow];exact xor_mod2 _ _
theorem mul_pow_xor (x y n:Nat):(x^^^y)*2^n=(x*2^n)^^^(y*2^n):=by
 have:=Nat.shiftLeft_xor_distrib (a:=x) (b:=y) (i:=n)
 simpa only [Nat.shiftLeft_eq] using this
theorem pm_xor_b (a b c n:Nat):pm a (b^^^c) n=pm a b n^^^pm a c n:=by
 induction n with
 | zero=>simp [pm]
 | succ n ih=>
  simp only [pm]
  rw [bit_xor,ih]
  have hx:=Nat.mod_two_eq_zero_or_one (b / 2^n)
  have hy:=Nat.mod_two_eq_zero_or_one (c / 2^n)
  rcases hx with hx | hx <;> rcases hy with hy | hy <;> rw [hx,hy] <;> simp
  · rw [Nat.xor_assoc]
  · rw [Nat.xor_assoc,Nat.xor_comm (pm a c n),← Nat.xor_assoc]
  · rw [xor4,Nat.xor_self,Nat.xor_zero]
theorem pm_xor_a (a d b n:Nat):pm (a^^^d) b n=pm a b n^^^pm d b n:=by
 induction n with
 | zero=>simp [pm]
 | succ n ih=>
  simp only [pm]
  rw [ih]
  by_cases h:b / 2^n % 2=1
  · simp only [h,if_true];rw [mul_pow_xor];exact xor4 _ _ _ _
  · simp only [h,if_false]
theorem rd_xor (k:Nat):∀ p q,rd k (p^^^q)=rd k p^^^rd k q:=by
 induction k with
 | zero=>intro p q;rfl
 | succ k ih=>
  intro p q
  simp only [rd]
  rw [← ih,bit_xor]
  congr 1
  have hx:=Nat.mod_two_eq_zero_or_one (p / 2^(k+8))
  have hy:=Nat.mod_two_eq_zero_or_one (q / 2^(k+8))
  rcases hx with hx | hx <;> rcases hy with hy | hy <;> rw [hx,hy] <;> simp
  · rw [Nat.xor_assoc]
  · rw [Nat.xor_assoc,Nat.xor_comm q,← Nat.xor_assoc]
  · rw [xor4,Nat.xor_self,Nat.xor_zero]
theorem basis_ref:∀ i,i < 8→∀ j,j < 8→rd 7 (pm (2^i) (2^j) 8)=gm (2^i) (2^j):=by decide +kernel
theorem ref_eq (ha:a < 256) (hb:b < 256):rd 7 (pm a b 8)=gm a b:=by
 refine additive_ext (fun x=>rd 7 (pm a x 8)) (fun x=>gm a x) (fun x y _ _=>?_) (fun x y _ _=>gm_add a x y) (fun i hi=>?_) b hb
 · show rd 7 (pm a (x^^^y) 8)=_
   rw [pm_xor_b,rd_xor]
 refine additive_ext (fun x=>rd 7 (pm x (2^i) 8)) (fun x=>gm x (2^i)) (fun x y _ _=>?_) (fun x y hx hy=>add_gm _ hx hy) (fun j hj=>?_) a ha
 · show rd 7 (pm (x^^^y) (2^i) 8)=_
   rw [pm_xor_a,rd_xor]
 exact basis_ref j hj i hi
theorem pm_lt (a b:Nat) (ha:a < 256):∀ n,n≤8→pm a b n < 65536:=by
 intro n
 induction n with
 | zero=>intro _;exact (by decide:(0:Nat) < 65536)
 | succ n ih=>
  intro hn
  have h:=ih (by omega)
  unfold pm;split
  · refine Nat.xor_lt_two_pow (n:=16) h ?_
    have:a*2^n < 256*2^n:=Nat.mul_lt_mul_of_pos_right ha (Nat.two_pow_pos n)
    have h2:2^n≤2^7:=Nat.pow_le_pow_right (by decide) (by omega)
    omega
  · exact h
end Go.Proofs.YthcgahldacpolaaGreatDoor.Gf
