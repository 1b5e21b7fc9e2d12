import Derived.Test.YthcgahldacpolaaGreatDoorM02
import Derived.Laws.BitsLemmas
import Derived.Test.YthcgahldacpolaaGreatDoorM01
import Derived.Deep.QuietTactic
import Derived.BigQuiet
import Derived.Maps.AppendAt
import Derived.Laws.Bits64b
import Derived.Laws.CopyOwn
import Derived.Deep.RegionWith
set_option maxRecDepth 100000
set_option maxHeartbeats 8000000
namespace Go.Proofs.YthcgahldacpolaaGreatDoor
open Go.RowKit
variable {D:List (List Nat)} {L T:List (Nat×Nat×List Nat)} {l:List Nat} {a b n B base:Nat} {o:Obj} {r:Option Nat} {v:Value} {w w' w0 w1 w2:World}
section
open Gf
theorem hide {p:Prop} (h:p):Hid p:=h
theorem hide2 {p0 p1:Prop} (x0:p0) (x1:p1):Go.RowKit.Hid (p0∧p1):=hide ⟨x0,x1⟩
theorem hide3 {p0 p1 p2:Prop} (x0:p0) (x1:p1) (x2:p2):Go.RowKit.Hid (p0∧p1∧p2):=hide ⟨x0,x1,x2⟩
theorem hide4 {p0 p1 p2 p3:Prop} (x0:p0) (x1:p1) (x2:p2) (x3:p3):Go.RowKit.Hid (p0∧p1∧p2∧p3):=hide ⟨x0,x1,x2,x3⟩
theorem hide5 {p0 p1 p2 p3 p4:Prop} (x0:p0) (x1:p1) (x2:p2) (x3:p3) (x4:p4):Go.RowKit.Hid (p0∧p1∧p2∧p3∧p4):=hide ⟨x0,x1,x2,x3,x4⟩
theorem hide6 {p0 p1 p2 p3 p4 p5:Prop} (x0:p0) (x1:p1) (x2:p2) (x3:p3) (x4:p4) (x5:p5):Go.RowKit.Hid (p0∧p1∧p2∧p3∧p4∧p5):=hide ⟨x0,x1,x2,x3,x4,x5⟩
theorem hide7 {p0 p1 p2 p3 p4 p5 p6:Prop} (x0:p0) (x1:p1) (x2:p2) (x3:p3) (x4:p4) (x5:p5) (x6:p6):Go.RowKit.Hid (p0∧p1∧p2∧p3∧p4∧p5∧p6):=hide ⟨x0,x1,x2,x3,x4,x5,x6⟩
theorem hide8 {p0 p1 p2 p3 p4 p5 p6 p7:Prop} (x0:p0) (x1:p1) (x2:p2) (x3:p3) (x4:p4) (x5:p5) (x6:p6) (x7:p7):Go.RowKit.Hid (p0∧p1∧p2∧p3∧p4∧p5∧p6∧p7):=hide ⟨x0,x1,x2,x3,x4,x5,x6,x7⟩
theorem hide13 {p0 p1 p2 p3 p4 p5 p6 p7 p8 p9 p10 p11 p12:Prop} (x0:p0) (x1:p1) (x2:p2) (x3:p3) (x4:p4) (x5:p5) (x6:p6) (x7:p7) (x8:p8) (x9:p9) (x10:p10) (x11:p11) (x12:p12):Go.RowKit.Hid (p0∧p1∧p2∧p3∧p4∧p5∧p6∧p7∧p8∧p9∧p10∧p11∧p12):=hide ⟨x0,x1,x2,x3,x4,x5,x6,x7,x8,x9,x10,x11,x12⟩
theorem ret_int {k:IntKind} {a b:Int} (h:a=b):Ending.returned (.int k a)=.returned (.int k b):=by rw [h]
theorem u8_and (a b:Nat) (ha:a < 256) (hb:b < 256):bits .and .u8 (a:Int) (b:Int)=((a &&& b:Nat):Int):=
 (bits_nat .u8 8 (by decide) wraps_u8 a b ha hb).1
theorem u8_xor (a b:Nat) (ha:a < 256) (hb:b < 256):bits .xor .u8 (a:Int) (b:Int)=((a^^^b:Nat):Int):=by
 have h0:a % 2^IntKind.u8.bits=a:=Nat.mod_eq_of_lt ha
 have h1:b % 2^IntKind.u8.bits=b:=Nat.mod_eq_of_lt hb
 simp only [bits,BitVec.ofInt_natCast,BitVec.toNat_xor,BitVec.toNat_ofNat,h0,h1]
 have:=xlt ha hb
 exact wraps_u8 _ (Int.natCast_nonneg _) (by omega)
theorem wraps_i64 (n:Int) (h₀:0≤n) (h₁:n < 2^62):IntKind.i64.wrap n=n:=by rw [IntKind.wrap_i64];omega
theorem i64_and (a b:Nat) (ha:a < 2^62) (hb:b < 2^62):bits .and .i64 (a:Int) (b:Int)=((a &&& b:Nat):Int):=
 (bits_nat .i64 62 (by decide) wraps_i64 a b ha hb).1
theorem i64_xor (a b:Nat) (ha:a < 2^62) (hb:b < 2^62):bits .xor .i64 (a:Int) (b:Int)=((a^^^b:Nat):Int):=by
 have hp:(2:Nat)^62 < 2^IntKind.i64.bits:=by decide
 have h0:a % 2^IntKind.i64.bits=a:=Nat.mod_eq_of_lt (Nat.lt_trans ha hp)
 have h1:b % 2^IntKind.i64.bits=b:=Nat.mod_eq_of_lt (Nat.lt_trans hb hp)
 simp only [bits,BitVec.ofInt_natCast,BitVec.toNat_xor,BitVec.toNat_ofNat,h0,h1]
 have:=Nat.xor_lt_two_pow (n:=62) ha hb
 exact wraps_i64 _ (Int.natCast_nonneg _) (by exact_mod_cast this)
theorem and128:∀ a,a < 256→((a &&& 128=0)↔a < 128):=by decide +kernel
theorem test128 (a:Nat) (h:a < 256):(bits .and .u8 (a:Int) 128 != 0)=decide (128≤a):=by
 have e:=u8_and a 128 h (by decide)
 rw [show ((128:Nat):Int)=128 from rfl] at e
 rw [e]
 have:=and128 a h
 rw [Bool.eq_iff_iff]
 simp
 omega
theorem and1 (a:Nat):a &&& 1=a % 2:=Nat.and_one_is_mod a
theorem test1 (a:Nat) (h:a < 256):(bits .and .u8 (a:Int) 1 != 0)=decide (a % 2=1):=by
 have e:=u8_and a 1 h (by decide)
 rw [show ((1:Nat):Int)=1 from rfl] at e
 rw [e,and1]
 rw [Bool.eq_iff_iff]
 simp
 omega
theorem tx_hi (h:a < 256) (ht:128≤a):bits .xor .u8 ((a:Int)*2 % 256) 29=(tx a:Int):=by
 have e:((a:Int)*2 % 256)=((2*a - 256:Nat):Int):=by omega
 rw [e,show (29:Int)=((29:Nat):Int) from rfl,u8_xor _ _ (by omega) (by decide)]
 unfold tx;rw [if_neg (by omega)]
theorem tx_lo (ht:a < 128):(a:Int)*2=(tx a:Int):=by
 unfold tx;rw [if_pos ht];omega
theorem timesX_any (a:Nat) (h:a < 256) (w:World) :
 Calls Tryz.prog 140 #[.int .u8 a] w fun e w'=>e=.returned (.int .u8 (tx a))∧w'=w:=by
 have ht:=test128 a h
 by_cases hc:128≤a
 · rw [decide_eq_true hc] at ht
   go_enter Tryz.func140,Tryz.ntmps140
   go_wp2
   go_ret
   exact ⟨ret_int (tx_hi h hc),rfl⟩
 · rw [decide_eq_false hc] at ht
   go_enter Tryz.func140,Tryz.ntmps140
   go_wp2
   go_ret
   exact ⟨ret_int (tx_lo (by omega)),rfl⟩
theorem gmf_zero (n:Nat):∀ a p,gmf n a 0 p=p:=by
 induction n with
 | zero=>intro a p;rfl
 | succ n ih=>intro a p;simp only [gmf];exact ih _ _
theorem mul_any (a b:Nat) (ha:a < 256) (hb:b < 256) (w:World) :
 Calls Tryz.prog 123 #[.int .u8 a,.int .u8 b] w fun e w'=>e=.returned (.int .u8 (gm a b))∧w'=w:=by
 go_enter Tryz.func123,Tryz.ntmps123
 go_wp2
 go_loop [0,1,5] (fun s t u=>∃ n x y z:Nat,x < 256∧y < 256∧z < 256∧y < 2^n∧Hid (gmf n x y z=gm a b)∧s=.int .u8 x∧t=.int .u8 y∧u=.int .u8 z) (fun _ t _=>(intOf t).toNat)
 case atStart=>exact ⟨8,a,b,0,ha,hb,by decide,hb,rfl,rfl,rfl,rfl⟩
 case round=>
  obtain ⟨n,x,y,z,hx,hy,hz,hn,hg,rfl,rfl,rfl⟩:=hrel
  by_cases h2:y=0
  · subst h2
    go_wp2
    go_ret
    exact ⟨ret_int (by rw [← hg.out,gmf_zero]),rfl⟩
  · have h3:((y:Int) != 0)=true:=by rw [bne_iff_ne];omega
    have ht:=test1 y hy
    cases n with
    | zero=>exact absurd hn (by simp;omega)
    | succ n=>
    have h1:y / 2 < 2^n:=by rw [Nat.pow_succ] at hn;omega
    by_cases hc:y % 2=1
    · rw [decide_eq_true hc] at ht
      have h0:Hid (gmf n (tx x) (y / 2) (z^^^x)=gm a b):=by have:=hg.out;simp only [gmf] at this;rw [if_pos hc] at this;exact this
      have h4:=u8_xor z x hz hx
      go_wp2_with (go_at_call 140;refine (timesX_any _ hx _).mono ?_;rintro e w' ⟨rfl,rfl⟩)
      go_round
      case rel=>exact ⟨n,tx x,y / 2,z^^^x,tx_lt hx,by omega,xlt hz hx,h1,h0,rfl,by go_num,rfl⟩
      case measure=>simp [intOf];omega
    · rw [decide_eq_false hc] at ht
      have h0:Hid (gmf n (tx x) (y / 2) z=gm a b):=by have:=hg.out;simp only [gmf] at this;rw [if_neg hc] at this;exact this
      go_wp2_with (go_at_call 140;refine (timesX_any _ hx _).mono ?_;rintro e w' ⟨rfl,rfl⟩)
      go_round
      case rel=>exact ⟨n,tx x,y / 2,z,tx_lt hx,by omega,hz,h1,h0,rfl,by go_num,rfl⟩
      case measure=>simp [intOf];omega
theorem gif_step (n p v:Nat):gif (n+1) p v=gif n (gm p p) (gm v (gm p p)):=rfl
theorem inv_any (a:Nat) (ha:a < 256) (w:World) :
 Calls Tryz.prog 122 #[.int .u8 a] w fun e w'=>e=.returned (.int .u8 (gi a))∧w'=w:=by
 go_enter Tryz.func122,Tryz.ntmps122
 go_wp2
 go_loop [3,4,6] (fun s t u=>∃ k p v:Nat,k≤7∧p < 256∧v < 256∧Hid (gif (7 - k) p v=gi a)∧s=.int .u8 v∧t=.int .u8 p∧u=.int .i64 k) (fun _ _ u=>7 - (intOf u).toNat)
 case atStart=>exact ⟨0,a,1,by decide,ha,by decide,rfl,rfl,rfl,rfl⟩
 case round=>
  obtain ⟨k,p,v,hk,hp,hv,hg,rfl,rfl,rfl⟩:=hrel
  by_cases h2:k < 7
  · have h0:Hid (gif (7 - (k+1)) (gm p p) (gm v (gm p p))=gi a):=by
     have:=hg.out;rw [show 7 - k=(7 - (k+1))+1 from by omega,gif_step] at this;exact this
    go_wp2_with fail
    refine (mul_any p p hp hp _).mono ?_
    rintro e w' ⟨rfl,rfl⟩
    go_wp2_with fail
    refine (mul_any v (gm p p) hv (gm_lt _ hp) _).mono ?_
    rintro e w' ⟨rfl,rfl⟩
    go_wp2_with fail
    go_round
    case rel=>exact ⟨k+1,gm p p,gm v (gm p p),by omega,gm_lt _ hp,gm_lt _ hv,h0,rfl,rfl,by go_num⟩
    case measure=>simp [intOf];omega
  · have h1:k=7:=by omega
    subst h1
    go_wp2
    go_ret
    exact ⟨ret_int (by rw [← hg.out];rfl),rfl⟩
end
section
open Go.Deep
def Bs (w:World) (v:Value) (l:List Nat):Prop:=
 ∃ ao c,v=.slice ao l.length c∧l.length≤c∧l.length≤140737488355328∧(∀ x∈l,x < 256)∧(l≠[]→∃ b off,ao=some ⟨b,off,none⟩∧∀ k,k < l.length→w.cell? ⟨b,off+k,none⟩=some (.int .u8 ((l.getD k 0:Nat):Int)))
theorem Bs.mono (h:Bs w v l) (hb:Below w.heap.size w w'):Bs w' v l:=by
 obtain ⟨ao,c,h1,h2,h3,h4,h5⟩:=h
 refine ⟨ao,c,h1,h2,h3,h4,fun hl=>?_⟩
 obtain ⟨b,off,e,hc⟩:=h5 hl
 refine ⟨b,off,e,fun k hk=>?_⟩
 have:=hc k hk
 rw [hb.cell (block_lt_of_cell this)];exact this
theorem Bs.of_row (h:Brow w b l) (hn:n≤l.length) (hm:n≤140737488355328) (hx:∀ x∈l,x < 256):Bs w (.slice (some ⟨b,0,none⟩) n l.length) (l.take n):=by
 have hl:(l.take n).length=n:=by rw [List.length_take];omega
 refine ⟨some ⟨b,0,none⟩,l.length,by rw [hl],by omega,by omega,fun x h=>hx x (List.mem_of_mem_take h),fun _=>⟨b,0,rfl,fun k hk=>?_⟩⟩
 rw [hl] at hk
 have:=h.cell k (by omega)
 rw [Nat.zero_add,this]
 simp [hk]
end
section
open Go.Deep
theorem bts_append (a b:List Nat):bts (a ++ b)=bts a ++ bts b:=by simp [bts]
theorem be_take (n:Nat):∀ (s k:Nat),k < s→(be n s).take (s - k)=(be n s).take (s - (k+1)) ++ [n / 256^k % 256]
 | 0,k,h=>absurd h (by omega)
 | s+1,k,h=>by
  by_cases e:k=s
  · subst e
    rw [show k+1 - k=1 by omega,Nat.sub_self]
    simp [be]
  · have ih:=be_take n s k (by omega)
    rw [show s+1 - k=(s - k)+1 by omega,show s+1 - (k+1)=(s - (k+1))+1 by omega]
    simp only [be,List.take_succ_cons,List.cons_append,ih]
theorem shr_key (n k:Nat):((n:Int) / 2^(8*k) % 256)=((n / 256^k % 256:Nat):Int):=by
 have e:(2:Nat)^(8*k)=256^k:=by rw [Nat.pow_mul]
 have e2:((2:Int)^(8*k))=((256^k:Nat):Int):=by rw [← e];norm_cast
 rw [e2]
 omega
theorem one_made (w:World) (x:Value) (t:TypeId):∀ j u,[x][j]?=some u→(w.alloc (.cells #[x] t)).cell? ((⟨w.heap.size,0,none⟩:Addr).add j)=some u:=by
 intro j u h
 rw [add0]
 match j,h with
 | 0,h=>simp at h;subst h;simp only [World.cell?,blk_alloc_new w (.cells #[x] t)];rfl
 | j+1,h=>simp at h
def ApnR (w:World) (base:Nat) (n s k0:Nat) (xs:List Value) (v0:Value) (b i:Value) (wr:World):Prop:=
 ∃ (k:Nat) (v:Value),k≤s∧i=.int .i64 ((k:Int) - 1)∧b=v∧wr.ownsRow base 5 1 v (k0+(s - k)) (xs ++ bts ((be n s).take (s - k)))∧Outside (fun j=>v0.ownBlock=some j) w wr∧(∀ j,v.ownBlock=some j→v0.ownBlock=some j∨w.heap.size≤j)
theorem append_num (base:Nat) (v0:Value) (k0:Nat) (xs:List Value) (n s:Nat) (w:World) (h1:w.ownsRow base 5 1 v0 k0 xs) (h0:base≤w.heap.size) (hs:s≤8) (hc:k0≤1000000000) :
 Calls Tryz.prog 114 #[v0,.int .u64 n,.int .i64 s] w fun e w'=>∃ v',e=.returned v'∧w'.ownsRow base 5 1 v' (k0+s) (xs ++ bts (be n s))∧Outside (fun j=>v0.ownBlock=some j) w w'∧(∀ j,v'.ownBlock=some j→v0.ownBlock=some j∨w.heap.size≤j):=by
 obtain ⟨i0,h3,h4,h5,h6⟩:=info_parts Tryz.infoByte
 go_enter Tryz.func114,Tryz.ntmps114
 go_wp2
 go_loopw [0,7] (fun b i wr=>ApnR w base n s k0 xs v0 b i wr) (fun _ i _=>(intOf i+1).toNat)
 case atStart=>exact ⟨s,v0,Nat.le_refl _,by go_num,rfl,by rw [Nat.sub_self];simpa [bts] using h1,Outside.refl _ _,fun j h=>.inl h⟩
 case round=>
  obtain ⟨k,v,hk,rfl,rfl,hO,hF,hB⟩:=hrel
  cases k with
  | zero=>
   have e1:((0:Nat):Int) - 1=-1:=by omega
   rw [e1]
   have HO:=hide3 hO hF hB
   clear hO hF hB
   go_wp2
   go_ret
   obtain ⟨hO,hF,hB⟩:=HO.out
   refine ⟨_,rfl,?_,hF,hB⟩
   rwa [Nat.sub_zero,List.take_of_length_le (by rw [be_len];exact Nat.le_refl _)] at hO
  | succ k=>
   have e1:((k+1:Nat):Int) - 1=(k:Int):=by omega
   rw [e1]
   have h8:¬ (8*(k:Int)) < 0:=by omega
   have he:=Nat.le_trans h0 hF.size
   go_wp2_with (at_builtin;refine wpList_append_own_at _ rfl (.tmp 14) (.tmp 20) 33 rfl base 5 i0 (.int .u8 0) 1 1 Tryz.underlying33 h3 h4 h5 h6 rfl (by decide) u0 (k0+(s - (k+1))) _ rfl (hO.alloc _) ⟨wr.heap.size,0,none⟩ 1 1 _ rfl rfl (one_made wr _ _) (by intro u hu;simp at hu;subst hu;rfl) (by unfold maxLen;omega) (by omega) (by simp;omega) ?_;intro v' w' ho hg h7 h9)
   have ha:(wr.alloc (.cells #[.int .u8 ((n:Int) / 2^(8*k) % 256)] 5)).heap.size=wr.heap.size+1:=by simp
   have hz:=hF.size
   have h2:∀ j,v'.ownBlock=some j→v0.ownBlock=some j∨w.heap.size≤j:=fun j hj=>by
    rcases h9 with e | e
    · exact hB j (e ▸ hj)
    · rw [e] at hj;cases hj;rw [ha];exact .inr (by omega)
   refine ⟨⟨k,v',by omega,by go_num,rfl,?_,?_,h2⟩,by simp [intOf]⟩
   · rw [shr_key] at ho
     rw [be_take n s k (by omega),bts_append,← List.append_assoc,show k0+(s - k)=k0+(s - (k+1))+1 by omega]
     exact ho
   · exact (hF.later (Outside.alloc (S:=fun _=>False) _ _) (fun _ _ h=>h.elim)).later (T:=fun j=>u0.ownBlock=some j) ⟨hg.os,hg.tape,hg.output,hg.size,fun j hj hs=>hg.block j hj (fun e=>hs e.symm)⟩ (fun j hj h=>by
      rcases hB j h with e | e
      · exact e
      · omega)
theorem of_key (n x:Nat) (hx:x < 256):bits .or .u64 (IntKind.u64.wrap ((n:Int)*256)) (x:Int)=(((n*256+x) % 18446744073709551616:Nat):Int):=by
 have e1:IntKind.u64.wrap ((n:Int)*256)=((n*256 % 18446744073709551616:Nat):Int):=by rw [IntKind.wrap_u64];omega
 rw [e1,bits_or_u64_nat _ _ (Nat.mod_lt _ (by decide)) (by omega)]
 congr 1
 have e3:n*256 % 18446744073709551616=2^8*(n % 72057594037927936):=by omega
 rw [e3,← Nat.two_pow_add_eq_or_of_lt (i:=8) (by omega)]
 omega
theorem xor32 (a b:Nat) (ha:a < 4294967296) (hb:b < 4294967296):bits .xor .u32 (a:Int) (b:Int)=((a^^^b:Nat):Int):=by
 have h0:a % 2^IntKind.u32.bits=a:=Nat.mod_eq_of_lt ha
 have h1:b % 2^IntKind.u32.bits=b:=Nat.mod_eq_of_lt hb
 have hx:a^^^b < 2^32:=Nat.xor_lt_two_pow ha hb
 simp only [bits,BitVec.ofInt_natCast,BitVec.toNat_xor,BitVec.toNat_ofNat,h0,h1]
 rw [IntKind.wrap_u32]
 omega
theorem xorMax (r:Nat) (hr:r < 4294967296):bits .xor .u32 IntKind.u32.max (r:Int)=((4294967295 - r:Nat):Int):=by
 have e:IntKind.u32.max=((4294967295:Nat):Int):=rfl
 rw [e,xor32 _ _ (by decide) hr]
 congr 1
 refine Nat.eq_of_testBit_eq fun i=>?_
 have h1:=Nat.testBit_two_pow_sub_succ (n:=32) (x:=r) hr i
 have h2:=Nat.testBit_two_pow_sub_one 32 i
 rw [Nat.testBit_xor,show (4294967295:Nat) - r=2^32 - (r+1) by omega,h1,show (4294967295:Nat)=2^32 - 1 from rfl,h2]
 by_cases hi:i < 32
 · simp [hi]
 · have:r.testBit i=false:=Nat.testBit_lt_two_pow (Nat.lt_of_lt_of_le hr (by have:=Nat.pow_le_pow_right (n:=2) (by decide) (show 32≤i by omega);omega))
   simp [hi,this]
theorem and32 (a b:Nat) (ha:a < 4294967296) (hb:b < 4294967296):bits .and .u32 (a:Int) (b:Int)=((a &&& b:Nat):Int):=(bits_nat .u32 32 (by decide) (fun n h1 h2=>by rw [IntKind.wrap_u32];omega) a b ha hb).1
theorem andF (a:Nat):a &&& 15=a % 16:=Nat.and_two_pow_sub_one_eq_mod a 4
theorem take_fold (l:List Nat) (k:Nat) (h:k < l.length):crcFold (l.take (k+1))=crcStep (crcFold (l.take k)) (l.getD k 0):=by
 rw [List.take_add_one,List.getElem?_eq_getElem h]
 unfold crcFold
 rw [List.foldl_append,List.getD_eq_getElem?_getD,List.getElem?_eq_getElem h];rfl
theorem take_ofB (l:List Nat) (k:Nat) (h:k < l.length):ofB (l.take (k+1))=(ofB (l.take k)*256+l.getD k 0) % 18446744073709551616:=by
 rw [List.take_add_one,List.getElem?_eq_getElem h,List.getD_eq_getElem?_getD,List.getElem?_eq_getElem h]
 exact ofB_snoc _ _
def OfnR (w:World) (l:List Nat) (n i _x:Value) (wr:World):Prop:=∃ k:Nat,k≤l.length∧n=.int .u64 (ofB (l.take k):Nat)∧i=.int .i64 k∧wr=w
theorem of_num (v:Value) (l:List Nat) (w:World) (h:Bs w v l):Calls Tryz.prog 119 #[v] w fun e w'=>e=.returned (.int .u64 (ofB l:Nat))∧w'=w:=by
 obtain ⟨ao,c,rfl,hc,hm,hx,hA⟩:=h
 go_enter Tryz.func119,Tryz.ntmps119
 go_wp2
 go_loopw [3,8,5] (fun n i x wr=>OfnR w l n i x wr) (fun _ i _ _=>l.length - (intOf i).toNat)
 case atStart=>exact ⟨0,Nat.zero_le _,rfl,rfl,rfl⟩
 case round=>
  obtain ⟨k,hk,rfl,rfl,rfl⟩:=hrel
  by_cases h2:k < l.length
  · obtain ⟨b,off,rfl,h0⟩:=hA (by intro e;rw [e] at h2;simp at h2)
    have c1:=h0 k h2
    have ho:OfnR wr l (.int .u64 (((ofB (l.take k)*256+l.getD k 0) % 18446744073709551616:Nat):Int)) (.int .i64 ((k:Int)+1)) (.int .u8 (l.getD k 0:Nat)) wr:=⟨k+1,by omega,by rw [take_ofB l k h2],rfl,rfl⟩
    have h3:l.getD k 0 < 256:=getD_lt hx k
    have h1:=of_key (ofB (l.take k)) (l.getD k 0) h3
    rw [← h1] at ho
    have HO:=hide ho
    clear ho h1 hA h0
    generalize l.getD k 0=x at *
    generalize ofB (l.take k)=n at *
    go_wp2
    exact ⟨HO.out,by simp [intOf];omega⟩
  · have h4:k=l.length:=by omega
    subst h4
    rw [List.take_length]
    clear hA
    go_wp2
    go_ret
    exact ⟨rfl,rfl⟩
def hvLaid (w:World):Prop:=∀ j,j < 16→w.cell? ⟨2,j,none⟩=some (.int .u32 ((halvesL.getD j 0:Nat):Int))
def SmR (w:World) (l:List Nat) (n i _x:Value) (wr:World):Prop:=∃ k:Nat,k≤l.length∧n=.int .u32 (crcFold (l.take k):Nat)∧i=.int .i64 k∧wr=w
theorem sum_any (v:Value) (l:List Nat) (w:World) (h:Bs w v l) (hv:hvLaid w):Calls Tryz.prog 115 #[v] w fun e w'=>e=.returned (.int .u32 (crc l:Nat))∧w'=w:=by
 obtain ⟨ao,c,rfl,hc,hm,hx,hA⟩:=h
 go_enter Tryz.func115,Tryz.ntmps115
 go_wp2
 go_loopw [3,8,5] (fun n i x wr=>SmR w l n i x wr) (fun _ i _ _=>l.length - (intOf i).toNat)
 case atStart=>exact ⟨0,Nat.zero_le _,rfl,rfl,rfl⟩
 case round=>
  obtain ⟨k,hk,rfl,rfl,rfl⟩:=hrel
  by_cases h3:k < l.length
  · obtain ⟨b,off,rfl,h0⟩:=hA (by intro e;rw [e] at h3;simp at h3)
    have c1:=h0 k h3
    have ho:SmR wr l (.int .u32 ((crcStep (crcFold (l.take k)) (l.getD k 0):Nat):Int)) (.int .i64 ((k:Int)+1)) (.int .u8 (l.getD k 0:Nat)) wr:=⟨k+1,by omega,by rw [take_fold l k h3],rfl,rfl⟩
    have h9:l.getD k 0 < 256:=getD_lt hx k
    have hr:crcFold (l.take k) < 4294967296:=crcFold_lt (fun x h=>hx x (List.mem_of_mem_take h))
    unfold crcStep at ho
    clear hA h0
    generalize l.getD k 0=x at *
    generalize crcFold (l.take k)=r at *
    have x1:(x:Int) % 4294967296=(x:Int):=by omega
    have x2:=xor32 r x hr (by omega)
    have h4:r^^^x < 4294967296:=Nat.xor_lt_two_pow (n:=32) hr (by omega)
    generalize r^^^x=r1 at *
    have x3:bits .and .u32 (r1:Int) 15=((r1 % 16:Nat):Int):=by have:=and32 r1 15 h4 (by decide);rw [andF] at this;exact this
    have x4:(r1:Int) / 16=((r1 / 16:Nat):Int):=by omega
    have cc1:=hv (r1 % 16) (Nat.mod_lt _ (by decide))
    have h5:=halves_lt (r1 % 16)
    have x5:=xor32 (r1 / 16) (halvesL.getD (r1 % 16) 0) (by omega) h5
    have h6:halfStep r1 < 4294967296:=halfStep_lt h4
    have e2:r1 / 16^^^halvesL.getD (r1 % 16) 0=halfStep r1:=rfl
    rw [e2] at x5
    have m1:r1 % 16 < 16:=Nat.mod_lt _ (by decide)
    clear e2
    generalize halfStep r1=r2 at *
    generalize halvesL.getD (r1 % 16) 0=h1 at *
    generalize r1 % 16=a1 at *
    generalize r1 / 16=b1 at *
    have y3:bits .and .u32 (r2:Int) 15=((r2 % 16:Nat):Int):=by have:=and32 r2 15 h6 (by decide);rw [andF] at this;exact this
    have y4:(r2:Int) / 16=((r2 / 16:Nat):Int):=by omega
    have dd1:=hv (r2 % 16) (Nat.mod_lt _ (by decide))
    have h7:=halves_lt (r2 % 16)
    have y5:=xor32 (r2 / 16) (halvesL.getD (r2 % 16) 0) (by omega) h7
    have e2:r2 / 16^^^halvesL.getD (r2 % 16) 0=halfStep r2:=rfl
    rw [e2] at y5
    have m2:r2 % 16 < 16:=Nat.mod_lt _ (by decide)
    clear e2
    generalize halfStep r2=r3 at *
    generalize halvesL.getD (r2 % 16) 0=h2 at *
    generalize r2 % 16=a2 at *
    generalize r2 / 16=b2 at *
    have HO:=hide ho
    have a1':(a1:Int) < 16:=by omega
    have a2':(a2:Int) < 16:=by omega
    clear ho h4 h6 h5 h7
    go_wp2
    exact ⟨HO.out,by simp [intOf];omega⟩
  · have h8:k=l.length:=by omega
    subst h8
    rw [List.take_length]
    have hr:crcFold l < 4294967296:=crcFold_lt hx
    clear hA
    have x1:=xorMax (crcFold l) hr
    rw [show 4294967295 - crcFold l=crc l from rfl] at x1
    generalize crcFold l=r at *
    go_wp2
    go_ret
    exact ⟨rfl,rfl⟩
end
section
open Go.Deep
theorem grown_set (h:w.grownBy w' (some b)) (i:Nat) (v:Value):w.grownBy (w'.setCell ⟨b,i,none⟩ v) (some b):=
 ⟨h.os,h.tape,h.output,by rw [nblk_setCell];exact h.size,fun k hk h0=>by
  rw [blk_setCell_other _ _ _ _ (by intro e;exact h0 (by rw [e]))];exact h.block k hk h0⟩
theorem grown_drew (h:w.grownBy w' r) (n:Nat):w.grownBy (w'.drewN n) r:=
 ⟨h.os,h.tape,h.output,h.size,h.block⟩
theorem grown_trans {w'':World} (h:w.grownBy w' r) (k:w'.grownBy w'' r):w.grownBy w'' r:=
 ⟨k.os.trans h.os,k.tape.trans h.tape,k.output.trans h.output,Nat.le_trans h.size k.size,fun j hj h0=>(k.block j (Nat.lt_of_lt_of_le hj h.size) h0).trans (h.block j hj h0)⟩
theorem grown_below (h:Below B w0 w) (hg:w.grownBy w' (some b)) (hB:B≤w.heap.size) (hb:B≤b):Below B w0 w':=
 h.grown hg hB (fun k hk=>by simp at hk;omega)
theorem owns_grown {xs:List Value} (h:w.ownsRow base 33 1 v n xs) (hg:w.grownBy w' (some b)) (h0:v.ownBlock≠some b):w'.ownsRow base 33 1 v n xs:=
 h.kept hg (.inr h0)
theorem Tab.wrote (h:Tab w base v L) {i:Nat} (hi:i < L.length) {l':List Nat} (hg:w.grownBy w' (some L[i].1)) (hB:Brow w' L[i].1 l') (h0:l'.length=L[i].2.2.length) (hx:∀ x∈l',x < 256) :
 Tab w' base v (L.set i (L[i].1,L[i].2.1,l')):=by
 have h3:=List.getElem_mem hi
 obtain ⟨a1,a2,a3,a4,a5⟩:=h.row _ h3
 have h4:(L.set i (L[i].1,L[i].2.1,l')).map hdr=L.map hdr:=by
  apply List.ext_getElem
  · simp
  · intro j h1 h2
    simp [List.getElem_set]
    by_cases e:i=j
    · subst e;simp [hdr,h0]
    · simp [e]
 have h5:(L.set i (L[i].1,L[i].2.1,l')).map (fun p=>p.1)=L.map (fun p=>p.1):=by
  apply List.ext_getElem
  · simp
  · intro j h1 h2
    simp [List.getElem_set]
    by_cases e:i=j
    · subst e;simp
    · simp [e]
 refine ⟨?_,fun p hp=>?_,by rw [h5];exact h.nodup⟩
 · rw [h4,List.length_set];exact owns_grown h.own hg (own_ne h.own a2)
 · obtain ⟨j,hj,rfl⟩:=List.mem_iff_getElem.1 hp
   rw [List.length_set] at hj
   rw [List.getElem_set]
   by_cases e:i=j
   · rw [if_pos e];exact ⟨a1,hB,by show L[i].2.1≤l'.length;omega,⟨by show L[i].2.1≤140737488355328;omega,by show l'.length≤9223372036854775807;omega⟩,hx⟩
   · rw [if_neg e]
     obtain ⟨b1,b2,b3⟩:=h.row _ (List.getElem_mem hj)
     refine ⟨b1,b2.grown hg ?_,b3⟩
     intro q
     simp at q
     have hp:=List.pairwise_iff_getElem.1 h.nodup
     rcases Nat.lt_or_gt_of_ne e with h' | h'
     · exact hp i j (by simpa using hi) (by simpa using hj) h' (by simp [q])
     · exact hp j i (by simpa using hj) (by simpa using hi) h' (by simp [q])
theorem Tab.row_at (h:Tab w base v L) {i:Nat} (hi:i < L.length):Bs w (hdr L[i]) (L[i].2.2.take L[i].2.1):=by
 obtain ⟨a1,a2,a3,a4,a5⟩:=h.row _ (List.getElem_mem hi)
 exact Bs.of_row a2 a3 a4.1 a5
theorem one_new (w:World) (n:Nat) (hn:n=w.heap.size) (x:Value) (t:TypeId):∀ j u,[x][j]?=some u→(w.alloc (.cells #[x] t)).cell? ((⟨n,0,none⟩:Addr).add j)=some u:=by
 subst hn;exact cell_one_new _ _ _
theorem Tab.append2 {v':Value} {m:Nat} (h:Tab w base v T) (hb:Below w.heap.size w w1) (h2:base≤w.heap.size) (h3:w.heap.size≤b) (hB:Brow w1 b l) (hm:m=l.length) (hn:n≤l.length) (hl:l.length≤140737488355328) (hx:∀ x∈l,x < 256)
 (hg:(w1.alloc o).grownBy w2 v.ownBlock) (h0:w2.ownsRow base 33 1 v' (T.length+1) (T.map hdr ++ [.slice (some ⟨b,0,none⟩) n m])):Tab w2 base v' (T ++ [(b,n,l)]):=by
 subst hm
 have h1:=(h.below hb).alloc o
 refine h1.push hg (p:=(b,n,l)) h0 ⟨by show base≤b;omega,hB.alloc o,hn,⟨by show n≤140737488355328;omega,by show l.length≤9223372036854775807;omega⟩,hx⟩ ?_
 intro q hq
 have:=(h.row q hq).2.1.lt
 show q.1≠b
 omega
theorem below_append (h:Tab w B v T) (h0:Below B w0 w) (hb:Below w.heap.size w w1) (hB:B≤w.heap.size) (hg:(w1.alloc o).grownBy w2 v.ownBlock):Below B w0 w2:=by
 have h1:=h0.trans (hb.mono hB)
 have hs:=hb.size
 refine (h1.alloc (by omega) o).grown hg (by rw [nblk_alloc];omega) ?_
 intro k hk
 exact (h.own.lt k hk).1
end
section
open Go.Deep Gf
def Rd (w:World) (v:Value) (D:List (List Nat)):Prop:=
 ∃ ao c,v=.slice ao D.length c∧D.length≤5864062014805∧(D≠[]→∃ b off,ao=some ⟨b,off,none⟩∧∀ i (hi:i < D.length),∃ u,w.cell? ⟨b,off+i,none⟩=some u∧Bs w u D[i])
theorem Bs.lt (h:Bs w v l):∀ x∈l,x < 256:=by
 obtain ⟨_,_,_,_,_,hx,_⟩:=h;exact hx
theorem Rd.mono (h:Rd w v D) (hb:Below w.heap.size w w'):Rd w' v D:=by
 obtain ⟨ao,c,h1,h2,h3⟩:=h
 refine ⟨ao,c,h1,h2,fun hD=>?_⟩
 obtain ⟨b,off,e,hc⟩:=h3 hD
 refine ⟨b,off,e,fun i hi=>?_⟩
 obtain ⟨u,hu,hB⟩:=hc i hi
 exact ⟨u,by rw [hb.cell (block_lt_of_cell hu)];exact hu,hB.mono hb⟩
theorem Rd.cases (h:Rd w v D):(D=[]∧∃ ao c,v=.slice ao 0 c)∨∃ b off c,v=.slice (some ⟨b,off,none⟩) D.length c∧D.length≤5864062014805∧∀ i (hi:i < D.length),∃ u,w.cell? ⟨b,off+i,none⟩=some u∧Bs w u D[i]:=by
 obtain ⟨ao,c,h1,h2,h3⟩:=h
 by_cases hD:D=[]
 · subst hD;exact .inl ⟨rfl,ao,c,h1⟩
 · obtain ⟨b,off,rfl,hc⟩:=h3 hD
   exact .inr ⟨b,off,c,h1,h2,hc⟩
theorem Brow.heap (h:Brow w b l):w.heap[b]?=some (.cells (l.map (fun x=>Value.int .u8 ((x:Nat):Int))).toArray 5 (0,0)):=by
 obtain ⟨c,hc,hs,hg⟩:=h
 have:c=(l.map (fun x=>Value.int .u8 ((x:Nat):Int))).toArray:=by
  apply Array.ext
  · simp [hs]
  · intro i h1 h2
    have:=hg i (by omega)
    rw [Array.getElem?_eq_getElem h1] at this
    simp [vb] at this
    have hi:i < l.length:=by omega
    simp [this,hi]
 rw [← this];exact hc
theorem Brow.of_heap (h:w.heap[b]?=some (.cells (l.map (fun x=>Value.int .u8 ((x:Nat):Int))).toArray 5 (0,0))):Brow w b l:=
 ⟨_,h,by simp,fun i hi=>by simp [vb,hi]⟩
theorem wpList_cp {ops:Array Oper} {rest:List Oper} {o:Oper} {a:Act} {Q:Exit→Act→World→Prop} (h5:o.guard=none) (d s:Operand)
 (ho:o.op=.call { callee:=.builtin .copy,args:=#[d,s],argTypes:=#[33,33] }) (g n cap:Nat) (v:Value) (hd:a.eval d=.slice (some ⟨g,0,none⟩) n cap) (hs:a.eval s=v)
 (old src:List Nat) (hB:Brow w g old) (hS:Bs w v src) (h9:src.length≤n) (hn:n≤old.length) (B:Nat) (w0:World) (hb:Below B w0 w) (h6:B≤g)
 (h:∀ w',Brow w' g (src ++ old.drop src.length)→Below B w0 w'→wpList Tryz.prog ops Q rest (a.put o.dst (goInt src.length)) w'):wpList Tryz.prog ops Q (o :: rest) a w:=by
 obtain ⟨ao,c,rfl,h1,h2,h3,h4⟩:=hS
 refine wpList_copy_splice h5 d s 33 33 ho 5 Tryz.underlying33 (by kernel_rfl) (some ⟨g,0,none⟩) ao n cap src.length c hd hs g 0 _ 5 hB.heap (src.map (fun x=>Value.int .u8 ((x:Nat):Int))) ?_ ?_ ?_ ?_ B w0 hb h6 ?_
 · rw [List.length_map]
   show src.length=min src.length n
   omega
 · intro hp
   rw [List.length_map] at hp
   obtain ⟨b,off,rfl,hc⟩:=h4 (by intro e;rw [e] at hp;simp at hp)
   refine ⟨rfl,_,rfl,fun j u hj=>?_⟩
   have h0:j < src.length:=by
    have:=List.getElem?_eq_some_iff.1 hj
    obtain ⟨q,_⟩:=this
    simpa using q
   rw [Addr.add_mid,hc j h0]
   simp [h0] at hj
   simp [h0,hj]
 · simp;omega
 · intro u hu
   obtain ⟨x,_,rfl⟩:=List.mem_map.1 hu
   rfl
 · intro w' h7 h8
   have e:(splice (old.map (fun x=>Value.int .u8 ((x:Nat):Int))) 0 (src.map (fun x=>Value.int .u8 ((x:Nat):Int))))=(src ++ old.drop src.length).map (fun x=>Value.int .u8 ((x:Nat):Int)):=by
    simp [splice]
   have hw:=h7.out
   rw [e] at hw
   rw [List.length_map]
   exact h w' (Brow.of_heap hw) h8
theorem Tab.cell_at {g cap:Nat} (h:Tab w base (.slice (some ⟨g,0,none⟩) n cap) L) {i:Nat} (hi:i < L.length):w.cell? ⟨g,i,none⟩=some (hdr L[i]):=by
 have:=h.own.cells (g:=g) rfl i (hdr L[i]) (by simp [hi])
 rw [add0] at this
 exact this
theorem Tab.slice (h:Tab w base v L):∃ ao cap,v=.slice ao L.length cap∧(L≠[]→∃ g,ao=some ⟨g,0,none⟩):=by
 rcases h.shape with ⟨rfl,rfl⟩ | ⟨g,cap,rfl,_⟩
 · exact ⟨none,0,rfl,fun h=>absurd rfl h⟩
 · exact ⟨_,cap,rfl,fun _=>⟨g,rfl⟩⟩
end
end Go.Proofs.YthcgahldacpolaaGreatDoor
