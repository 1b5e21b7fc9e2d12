import Derived.Test.YthcgahldacpolaaGreatDoorM20
import Derived.WalkMore
set_option maxRecDepth 100000
set_option maxHeartbeats 8000000
namespace Go.Proofs.YthcgahldacpolaaGreatDoor
open Go.RowKit Go.Deep Gf
variable {a:Act} {ops:Array Oper} {D:List (List Nat)} {p r c n i k b t:Nat} {G:Nat→Nat} {o:Oper} {v:Value} {w:World}
def rw64 (G:Nat→Nat) (i:Nat):List Nat:=(List.range 64).map fun j=>G (i*64+j)
def rowsG (G:Nat→Nat) (n:Nat):List (List Nat):=(List.range n).map (rw64 G)
theorem vec_rw (G:Nat→Nat) (i j:Nat):vec (rw64 G i) j=if j < 64 then G (i*64+j) else 0:=by
 unfold vec rw64
 by_cases h:j < 64
 · simp [h]
 · simp [h]
theorem rowsG_len (G:Nat→Nat) (n:Nat):(rowsG G n).length=n:=by simp [rowsG]
theorem rowsG_get (G:Nat→Nat) (n i:Nat) (h:i < (rowsG G n).length):(rowsG G n)[i]=rw64 G i:=by simp [rowsG]
theorem rowsG_byte (hG:∀ x,G x < 256) (n:Nat):∀ l∈rowsG G n,∀ x∈l,x < 256:=by
 intro l hl x hx
 obtain ⟨i,_,rfl⟩:=List.mem_map.1 hl
 obtain ⟨j,_,rfl⟩:=List.mem_map.1 hx
 exact hG _
def swG (G:Nat→Nat) (p r x:Nat):Nat:=if x / 64=r then G (p*64+x % 64) else if x / 64=p then G (r*64+x % 64) else G x
theorem swG_lt (hG:∀ x,G x < 256) (p r x:Nat):swG G p r x < 256:=by
 unfold swG;split
 · exact hG _
 · split <;> exact hG _
theorem swG_at (G:Nat→Nat) (p r i j:Nat) (hj:j < 64):swG G p r (i*64+j)=if i=r then G (p*64+j) else if i=p then G (r*64+j) else G (i*64+j):=by
 have e1:(i*64+j) / 64=i:=by omega
 have e2:(i*64+j) % 64=j:=by omega
 unfold swG
 rw [e1,e2]
def nxG (G:Nat→Nat) (p r c n:Nat):Nat→Nat:=wk (swG G p r) r c (gi (G (p*64+c))) (max n (r+1))
theorem nxG_lt (hG:∀ x,G x < 256) (p r c n x:Nat):nxG G p r c n x < 256:=wk_lt (swG_lt hG p r) _ _ _ _
theorem nxG_at (G:Nat→Nat) (p r c n i j:Nat) (_hc:c < 64) (hj:j < 64) (hi:r < i) (h0:i < n):nxG G p r c n (i*64+j)=if c≤j then swG G p r (i*64+j)^^^gm (gm (swG G p r (i*64+c)) (gi (G (p*64+c)))) (G (p*64+j)) else swG G p r (i*64+j):=by
 have e1:(i*64+j) / 64=i:=by omega
 have e2:(i*64+j) % 64=j:=by omega
 unfold nxG wk
 rw [e1,e2,swG_at G p r r j hj,if_pos rfl]
 by_cases h:c≤j
 · rw [if_pos h,if_pos (by omega)]
 · rw [if_neg h,if_neg (by omega)]
theorem nxG_row (hG:∀ x,G x < 256) (hc:c < 64) (hp:p < n) (h1:r≤p) (h2:G (p*64+c)≠0) (hz:∀ i,r≤i→i < n→∀ j,j < c→G (i*64+j)=0) (hi:r < i) (h0:i < n) :
 ∃ f,f < 256∧vec (rw64 (nxG G p r c n) i)=addV (vec (rw64 G (if i=p then r else i))) f (vec (rw64 G p))∧vec (rw64 (nxG G p r c n) i) c=0:=by
 have h3:∀ j,j < 64→swG G p r (i*64+j)=G ((if i=p then r else i)*64+j):=by
  intro j hj
  rw [swG_at G p r i j hj,if_neg (by omega)]
  split <;> rfl
 refine ⟨gm (swG G p r (i*64+c)) (gi (G (p*64+c))),gm_lt _ (swG_lt hG _ _ _),?_,?_⟩
 · funext j
   show vec (rw64 (nxG G p r c n) i) j=vec (rw64 G (if i=p then r else i)) j^^^gm _ (vec (rw64 G p) j)
   rw [vec_rw,vec_rw,vec_rw]
   by_cases hj:j < 64
   · rw [if_pos hj,if_pos hj,if_pos hj,nxG_at G p r c n i j hc hj hi h0,h3 j hj]
     by_cases h:c≤j
     · rw [if_pos h]
     · rw [if_neg h,hz p h1 hp j (by omega),gm_zero,Nat.xor_zero]
   · rw [if_neg hj,if_neg hj,if_neg hj,gm_zero]
     exact (Nat.xor_self 0).symm
 · rw [vec_rw,if_pos hc,nxG_at G p r c n i c hc hc hi h0,if_pos (Nat.le_refl _)]
   exact off_zero (swG_lt hG _ _ _) (hG _) h2
theorem grid_pivot {m:Nat} (hG:∀ x,G x < 256) (hc:c < 64) (hp:p < n) (h1:r≤p) (h2:G (p*64+c)≠0) (hz:∀ i,r≤i→i < n→∀ j,j < c→G (i*64+j)=0)
 (ht:Taken m (Rem (rowsG (nxG G p r c n) n) (r+1)) (c+1) k):Taken (m+1) (Rem (rowsG G n) r) c (k+1):=by
 refine taken_pivot (p:=p) (T':=rowsG (nxG G p r c n) n) (rowsG_byte hG n) (rowsG_byte (nxG_lt hG p r c n) n) (by rw [rowsG_len,rowsG_len]) h1 (by rw [rowsG_len];exact hp) ?_ ?_ ht
 · rw [rowsG_get,vec_rw,if_pos hc];exact h2
 · intro i hi h3
   rw [rowsG_len] at hi
   obtain ⟨f,hf,e,h0⟩:=nxG_row hG hc hp h1 h2 hz h3 hi
   refine ⟨f,by rw [rowsG_len];split <;> omega,hf,?_,?_⟩
   · rw [rowsG_get,rowsG_get,rowsG_get];exact e
   · rw [rowsG_get];exact h0
structure GI (D:List (List Nat)) (c r n:Nat) (G:Nat→Nat):Prop where
 byt:∀ x,G x < 256
 rle:r≤n
 zer:∀ i,r≤i→i < n→∀ j,j < c→G (i*64+j)=0
 tak:∀ k,Taken (64 - c) (Rem (rowsG G n) r) c k→RankIs D (r+k)
theorem GI.skip (h:GI D c r n G) (hc:c < 64) (hz:∀ i,r≤i→i < n→G (i*64+c)=0):GI D (c+1) r n G:=
 { h with
  zer:=fun i hr hi j hj=>by
   by_cases e:j=c
   · subst e;exact hz i hr hi
   · exact h.zer i hr hi j (by omega)
  tak:=fun k hk=>by
   refine h.tak k ?_
   have e:64 - c=64 - (c+1)+1:=by omega
   rw [e]
   refine taken_skip (fun i hi hr=>?_) hk
   rw [rowsG_get,vec_rw,if_pos hc]
   rw [rowsG_len] at hi
   exact hz i hr hi }
theorem GI.pivot (h:GI D c r n G) (hc:c < 64) (h2:r≤p) (hp:p < n) (h3:G (p*64+c)≠0):GI D (c+1) (r+1) n (nxG G p r c n) where
 byt:=nxG_lt h.byt p r c n
 rle:=by omega
 zer:=fun i hr hi j hj=>by
  obtain ⟨f,_,e,h0⟩:=nxG_row h.byt hc hp h2 h3 h.zer (show r < i by omega) hi
  by_cases ej:j=c
  · subst ej
    rw [vec_rw,if_pos hc] at h0
    exact h0
  · have e2:=congrFun e j
    have h4:=h.zer (if i=p then r else i) (by split <;> omega) (by split <;> omega) j (by omega)
    have h5:=h.zer p h2 hp j (by omega)
    rw [vec_rw,if_pos (by omega)] at e2
    rw [e2]
    show vec (rw64 G (if i=p then r else i)) j^^^gm f (vec (rw64 G p) j)=0
    generalize (if i=p then r else i)=q at *
    have h1:j < 64:=by omega
    rw [vec_rw,vec_rw,if_pos h1,if_pos h1,h4,h5,gm_zero]
    exact Nat.xor_self 0
 tak:=fun k hk=>by
  have e:r+1+k=r+(k+1):=by omega
  rw [e]
  refine h.tak (k+1) ?_
  have e:64 - c=64 - (c+1)+1:=by omega
  rw [e]
  exact grid_pivot h.byt hc hp h2 h3 h.zer hk
theorem GI.done (h:GI D 64 r n G):RankIs D r:=
 h.tak 0 rfl
theorem gridOf_lt (hb:∀ l∈D,∀ x∈l,x < 256) (x:Nat):gridOf D x < 256:=by
 unfold gridOf
 by_cases h:x / 64 < D.length
 · have e:D.getD (x / 64) []=D[x / 64]:=by simp [h]
   rw [e];exact getD_lt (hb _ (List.getElem_mem h)) _
 · have e:D.getD (x / 64) []=[]:=by simp [List.getElem?_eq_none (Nat.not_lt.1 h)]
   rw [e];simp
theorem GI.start (hb:∀ l∈D,∀ x∈l,x < 256) (hf:FitG D):GI D 0 0 D.length (gridOf D) where
 byt:=gridOf_lt hb
 rle:=Nat.zero_le _
 zer:=fun _ _ _ j hj=>absurd hj (Nat.not_lt_zero _)
 tak:=fun k hk=>by
  rw [Nat.zero_add]
  have e:Rem (rowsG (gridOf D) D.length) 0=Rem D 0:=rem_congr (by rw [rowsG_len]) (fun i h1 h2=>by
   rw [rowsG_get]
   funext j
   rw [vec_rw]
   have hg:D.getD i []=D[i]:=by simp [h2]
   by_cases hj:j < 64
   · rw [if_pos hj]
     have e1:(i*64+j) / 64=i:=by omega
     have e2:(i*64+j) % 64=j:=by omega
     unfold gridOf vec
     rw [e1,e2,hg]
   · rw [if_neg hj]
     have:=hf.2 i h2
     unfold vec
     simp [List.getElem?_eq_none (show (D[i]).length≤j by omega)]) 0
  rw [e] at hk
  exact hk
theorem put_same (a:Act) (i:Nat) (v:Value) (h:i < a.tmps.size):(a.put (some i) v).eval (.tmp i)=v:=by simp [Act.put,Act.eval,h]
theorem put_other (a:Act) (i j:Nat) (v:Value) (h:i≠j):(a.put (some i) v).eval (.tmp j)=a.eval (.tmp j):=by
 simp [Act.put,Act.eval,Array.getD_eq_getD_getElem?,h]
theorem put_size (a:Act) (d:Option Nat) (v:Value):(a.put d v).tmps.size=a.tmps.size:=by
 cases d <;> simp [Act.put]
theorem put_comm (a:Act) (i j:Nat) (v u:Value) (h:i≠j):(a.put (some i) v).put (some j) u=(a.put (some j) u).put (some i) v:=by
 simp only [Act.put]
 rw [Array.setIfInBounds_comm _ _ h]
theorem wanted_of (hg:o.guard=none):Region.wanted o (yielded ops a.tmps)=true:=by simp [Region.wanted,hg]
theorem yields_move {P:Program} {x:Operand} (hg:o.guard=none) (ho:o.op=.move x) (hx:a.eval x=v):Yields P ops o v a:=
 .inl ⟨wanted_of hg,fun w=>by simp [execOp,ho,hx]⟩
def rg:Code→Nat→Option (Array Oper)
 | .region i ops _,n=>if i=n then some ops else none
 | .seq a b,n=>(rg a n).orElse fun _=>rg b n
 | .cond _ a b,n=>(rg a n).orElse fun _=>rg b n
 | .block _ a,n=>rg a n
 | .loop a,n=>rg a n
 | .scope a,n=>rg a n
 | _,_=>none
noncomputable def R12:Array Oper:=((Tryz.f74.body.bind (rg · 12))).getD #[]
def mk12 (l:List Nat):Array Bool:=l.foldl (fun a i=>a.setIfInBounds i true) (Array.replicate 12 false)
theorem R12_at:(List.range 12).map (fun i=>(R12[i]?).map fun o=>(o.op,o.dst,o.guard))=[
 some (.move (.tmp 4),some 28,none),some (.move (.tmp 6),some 29,none),some (.move (.tmp 6),some 30,none),some (.indexAddr 222 (.tmp 3) (.tmp 30),some 31,none),
 some (.load 196 (.tmp 31),some 32,none),some (.move (.tmp 4),some 33,none),some (.indexAddr 222 (.tmp 3) (.tmp 33),some 34,none),some (.load 196 (.tmp 34),some 35,none),
 some (.indexAddr 222 (.tmp 3) (.tmp 28),some 36,none),some (.store 196 (.tmp 36) (.tmp 32),none,none),some (.indexAddr 222 (.tmp 3) (.tmp 29),some 37,none),some (.store 196 (.tmp 37) (.tmp 35),none,none)]:=by kernel_rfl
theorem R12_op {x:Op} {d:Option Nat} (hi:i < 12) (h:((List.range 12).map (fun i=>(R12[i]?).map fun o=>(o.op,o.dst,o.guard)))[i]?=some (some (x,d,none))):∃ o,R12[i]?=some o∧o.op=x∧o.dst=d∧o.guard=none:=by
 simp only [List.getElem?_map,List.getElem?_range hi,Option.map_some,Option.some.injEq,Option.map_eq_some_iff,Prod.mk.injEq] at h
 obtain ⟨o,h1,h2,h3,h4⟩:=h
 exact ⟨o,h1,h2,h3,h4⟩
theorem idx_grid (gb p:Nat) (hp:p < 64) {o:Oper} {a:Act} {x y:Operand} (ho:o.op=.indexAddr 222 x y) (hx:a.eval x=.pointer (some ⟨gb,0,none⟩)) (hy:a.eval y=.int .i64 (p:Nat)) (w:World) :
 (execOp a.eval o).run Tryz.prog w=.ok (.value (.pointer (some ⟨gb,p*64,none⟩))) w:=by
 have h1:(p:Int) < 64:=by omega
 simp only [execOp,ho,hx,hy]
 go_simp
theorem Tryz.sizeRow:(Tryz.prog.info? 196).map (fun i=>i.size)=some 64:=by kernel_rfl
def act12 (a:Act) (gb p r:Nat) (cp cr:List Value):Act:=
 ((((((((((a.put (some 28) (.int .i64 (r:Nat))).put (some 29) (.int .i64 (p:Nat))).put (some 30) (.int .i64 (p:Nat))).put (some 33) (.int .i64 (r:Nat))).put (some 31) (.pointer (some ⟨gb,p*64,none⟩))).put (some 34) (.pointer (some ⟨gb,r*64,none⟩))).put (some 32) (.agg cp.toArray)).put (some 35) (.agg cr.toArray)).put (some 36) (.pointer (some ⟨gb,r*64,none⟩))).put none undef).put (some 37) (.pointer (some ⟨gb,p*64,none⟩)) |>.put none undef
theorem exchange {Q:Exit→Act→World→Prop} (gb p r:Nat) (cp cr:List Value) (hR:R12=ops) (hQ:∀ c n v a w,Q (.panic c) (a.put (some n) v) w→Q (.panic c) a w)
 (h1:a.tmps.size=47) (hp:p < 64) (hr:r < 64) (e3:a.eval (.tmp 3)=.pointer (some ⟨gb,0,none⟩)) (e4:a.eval (.tmp 4)=.int .i64 (r:Nat)) (e6:a.eval (.tmp 6)=.int .i64 (p:Nat))
 (lp:cp.length=64) (lr:cr.length=64) (op:cp.toArray.all (fun v=>v.oneCell')=true) (or:cr.toArray.all (fun v=>v.oneCell')=true)
 (gp:w.drew.rangeAt gb (p*64) cp) (gr:w.drew.rangeAt gb (r*64) cr) (tr:w.drew.there gb (r*64) 64) (tp:w.drew.there gb (p*64) 64)
 (h:Q .normal (act12 a gb p r cp cr) ((w.drew.setCells gb (r*64) cp).setCells gb (p*64) cr)):(Code.region 12 ops true).wp Tryz.prog Q a w:=by
 subst hR
 obtain ⟨o0,g0,x0,d0,k0⟩:=R12_op (i:=0) (by decide) (by rw [R12_at];rfl)
 obtain ⟨o1,g1,x1,d1,k1⟩:=R12_op (i:=1) (by decide) (by rw [R12_at];rfl)
 obtain ⟨o2,g2,x2,d2,k2⟩:=R12_op (i:=2) (by decide) (by rw [R12_at];rfl)
 obtain ⟨o3,g3,x3,d3,k3⟩:=R12_op (i:=3) (by decide) (by rw [R12_at];rfl)
 obtain ⟨o4,g4,x4,d4,k4⟩:=R12_op (i:=4) (by decide) (by rw [R12_at];rfl)
 obtain ⟨o5,g5,x5,d5,k5⟩:=R12_op (i:=5) (by decide) (by rw [R12_at];rfl)
 obtain ⟨o6,g6,x6,d6,k6⟩:=R12_op (i:=6) (by decide) (by rw [R12_at];rfl)
 obtain ⟨o7,g7,x7,d7,k7⟩:=R12_op (i:=7) (by decide) (by rw [R12_at];rfl)
 obtain ⟨o8,g8,x8,d8,k8⟩:=R12_op (i:=8) (by decide) (by rw [R12_at];rfl)
 obtain ⟨o9,g9,x9,d9,k9⟩:=R12_op (i:=9) (by decide) (by rw [R12_at];rfl)
 obtain ⟨o10,g10,x10,d10,k10⟩:=R12_op (i:=10) (by decide) (by rw [R12_at];rfl)
 obtain ⟨o11,g11,x11,d11,k11⟩:=R12_op (i:=11) (by decide) (by rw [R12_at];rfl)
 have h0:Region.noSelect R12=true:=by kernel_rfl
 have h2:R12.size=12:=by kernel_rfl
 refine wp_region_any (by kernel_rfl) ?_
 rw [h2]
 change wpAny _ _ _ _ _ (mk12 []) _ (World.drew _)
 refine wpAny_take g0 h0 (by kernel_rfl) (by kernel_rfl) (fun c a w h=>hQ c _ _ a w (by rw [d0] at h;exact h)) (yields_move k0 x0 e4) ?_
 rw [d0]
 refine wpAny_take g1 h0 (by kernel_rfl) (by kernel_rfl) (fun c a w h=>hQ c _ _ a w (by rw [d1] at h;exact h)) (yields_move (v:=.int .i64 (p:Nat)) k1 x1 (by rw [put_other _ _ _ _ (by decide)];exact e6)) ?_
 rw [d1]
 refine wpAny_take g2 h0 (by kernel_rfl) (by kernel_rfl) (fun c a w h=>hQ c _ _ a w (by rw [d2] at h;exact h)) (yields_move (v:=.int .i64 (p:Nat)) k2 x2 (by rw [put_other _ _ _ _ (by decide),put_other _ _ _ _ (by decide)];exact e6)) ?_
 rw [d2]
 refine wpAny_take g5 h0 (by kernel_rfl) (by kernel_rfl) (fun c a w h=>hQ c _ _ a w (by rw [d5] at h;exact h)) (yields_move (v:=.int .i64 (r:Nat)) k5 x5 (by rw [put_other _ _ _ _ (by decide),put_other _ _ _ _ (by decide),put_other _ _ _ _ (by decide)];exact e4)) ?_
 rw [d5]
 generalize hb:(((a.put (some 28) (.int .i64 (r:Nat))).put (some 29) (.int .i64 (p:Nat))).put (some 30) (.int .i64 (p:Nat))).put (some 33) (.int .i64 (r:Nat))=b
 have sb:b.tmps.size=47:=by rw [← hb];simp only [put_size,h1]
 have b3:b.eval (.tmp 3)=.pointer (some ⟨gb,0,none⟩):=by rw [← hb];simp only [put_other _ _ _ _ (show (33:Nat)≠3 by decide),put_other _ _ _ _ (show (30:Nat)≠3 by decide),put_other _ _ _ _ (show (29:Nat)≠3 by decide),put_other _ _ _ _ (show (28:Nat)≠3 by decide),e3]
 have b30:b.eval (.tmp 30)=.int .i64 (p:Nat):=by rw [← hb,put_other _ _ _ _ (by decide),put_same _ _ _ (by simp only [put_size,h1];decide)]
 have b33:b.eval (.tmp 33)=.int .i64 (r:Nat):=by rw [← hb,put_same _ _ _ (by simp only [put_size,h1];decide)]
 have b28:b.eval (.tmp 28)=.int .i64 (r:Nat):=by rw [← hb,put_other _ _ _ _ (by decide),put_other _ _ _ _ (by decide),put_other _ _ _ _ (by decide),put_same _ _ _ (by simp only [h1];decide)]
 have b29:b.eval (.tmp 29)=.int .i64 (p:Nat):=by rw [← hb,put_other _ _ _ _ (by decide),put_other _ _ _ _ (by decide),put_same _ _ _ (by simp only [put_size,h1];decide)]
 unfold act12 at h
 rw [hb] at h
 clear hb
 refine wpAny_take g3 h0 (by kernel_rfl) (by kernel_rfl) (fun c a w h=>hQ c _ _ a w (by rw [d3] at h;exact h)) (.inl ⟨wanted_of k3,idx_grid gb p hp x3 b3 b30⟩) ?_
 rw [d3]
 refine wpAny_take g6 h0 (by kernel_rfl) (by kernel_rfl) (fun c a w h=>hQ c _ _ a w (by rw [d6] at h;exact h)) (.inl ⟨wanted_of k6,idx_grid gb r hr x6 (by rw [put_other _ _ _ _ (by decide)];exact b3) (by rw [put_other _ _ _ _ (by decide)];exact b33)⟩) ?_
 rw [d6]
 generalize hc:(b.put (some 31) (.pointer (some ⟨gb,p*64,none⟩))).put (some 34) (.pointer (some ⟨gb,r*64,none⟩))=c
 have sc:c.tmps.size=47:=by rw [← hc];simp only [put_size,sb]
 have c3:c.eval (.tmp 3)=.pointer (some ⟨gb,0,none⟩):=by rw [← hc,put_other _ _ _ _ (by decide),put_other _ _ _ _ (by decide),b3]
 have c28:c.eval (.tmp 28)=.int .i64 (r:Nat):=by rw [← hc,put_other _ _ _ _ (by decide),put_other _ _ _ _ (by decide),b28]
 have c29:c.eval (.tmp 29)=.int .i64 (p:Nat):=by rw [← hc,put_other _ _ _ _ (by decide),put_other _ _ _ _ (by decide),b29]
 have c31:c.eval (.tmp 31)=.pointer (some ⟨gb,p*64,none⟩):=by rw [← hc,put_other _ _ _ _ (by decide),put_same _ _ _ (by rw [sb];decide)]
 have c34:c.eval (.tmp 34)=.pointer (some ⟨gb,r*64,none⟩):=by rw [← hc,put_same _ _ _ (by simp only [put_size,sb];decide)]
 rw [hc] at h
 clear hc
 have zp:(Tryz.prog.info? 196).map (fun i=>i.size)=some cp.length:=by rw [lp];exact Tryz.sizeRow
 have zr:(Tryz.prog.info? 196).map (fun i=>i.size)=some cr.length:=by rw [lr];exact Tryz.sizeRow
 have fin:wpAny Tryz.prog .any R12 Q 4 (mk12 [0,1,2,5,3,6,4,7]) ((c.put (some 32) (.agg cp.toArray)).put (some 35) (.agg cr.toArray)) w.drew:=by
  generalize hd:(c.put (some 32) (.agg cp.toArray)).put (some 35) (.agg cr.toArray)=d
  have sd:d.tmps.size=47:=by rw [← hd];simp only [put_size,sc]
  have q3:d.eval (.tmp 3)=.pointer (some ⟨gb,0,none⟩):=by rw [← hd,put_other _ _ _ _ (by decide),put_other _ _ _ _ (by decide),c3]
  have q28:d.eval (.tmp 28)=.int .i64 (r:Nat):=by rw [← hd,put_other _ _ _ _ (by decide),put_other _ _ _ _ (by decide),c28]
  have q29:d.eval (.tmp 29)=.int .i64 (p:Nat):=by rw [← hd,put_other _ _ _ _ (by decide),put_other _ _ _ _ (by decide),c29]
  have q32:d.eval (.tmp 32)=.agg cp.toArray:=by rw [← hd,put_other _ _ _ _ (by decide),put_same _ _ _ (by rw [sc];decide)]
  have q35:d.eval (.tmp 35)=.agg cr.toArray:=by rw [← hd,put_same _ _ _ (by simp only [put_size,sc];decide)]
  rw [hd] at h
  clear hd
  refine wpAny_take g8 h0 (by kernel_rfl) (by kernel_rfl) (fun c a w h=>hQ c _ _ a w (by rw [d8] at h;exact h)) (.inl ⟨wanted_of k8,idx_grid gb r hr x8 q3 q28⟩) ?_
  rw [d8]
  refine wpAny_ready (rs:=[9]) (by kernel_rfl) (by simp) ?_
  refine AllReady.cons g9 (fun K hK=>?_) AllReady.nil
  rw [if_pos (wanted_of k9)]
  refine wp_store_mid 196 (.tmp 36) (.tmp 32) x9 gb (r*64) cp.toArray (by rw [put_same _ _ _ (by rw [sd];decide)]) (by rw [put_other _ _ _ _ (by decide),q32]) (by simpa [lp] using tr) (by simpa using zp) op ?_
  refine hK _ _ ?_
  rw [d9]
  refine wpAny_take g10 h0 (by kernel_rfl) (by kernel_rfl) (fun c a w h=>hQ c _ _ a w (by rw [d10] at h;exact h)) (.inl ⟨wanted_of k10,idx_grid gb p hp x10 (by show (d.put (some 36) _).eval _=_;rw [put_other _ _ _ _ (by decide)];exact q3) (by show (d.put (some 36) _).eval _=_;rw [put_other _ _ _ _ (by decide)];exact q29)⟩) ?_
  rw [d10]
  refine wpAny_ready (rs:=[11]) (by kernel_rfl) (by simp) ?_
  refine AllReady.cons g11 (fun K hK=>?_) AllReady.nil
  rw [if_pos (wanted_of k11)]
  refine wp_store_mid 196 (.tmp 37) (.tmp 35) x11 gb (p*64) cr.toArray (by rw [put_same _ _ _ (by show 37 < (d.put (some 36) _).tmps.size;rw [put_size,sd];decide)]) (by rw [put_other _ _ _ _ (by decide)];show (d.put (some 36) _).eval _=_;rw [put_other _ _ _ _ (by decide),q35]) (by simpa [lr] using World.there_setCells tp gb (r*64) cp) (by simpa using zr) or ?_
  refine hK _ _ ?_
  rw [d11]
  exact wpAny_done (by kernel_rfl) h _
 refine wpAny_ready (rs:=[4,7]) (by kernel_rfl) (by simp) ?_
 refine AllReady.cons g4 (fun K hK=>?_) (AllReady.cons g7 (fun K hK=>?_) AllReady.nil)
 · rw [if_pos (wanted_of k4)]
   refine wp_load_mid 196 (.tmp 31) x4 gb (p*64) c31 cp _ gp Tryz.underlying196 rfl zp ?_
   refine hK _ _ ?_
   rw [d4]
   refine wpAny_ready (rs:=[7]) (by kernel_rfl) (by simp) ?_
   refine AllReady.cons g7 (fun K hK=>?_) AllReady.nil
   rw [if_pos (wanted_of k7)]
   refine wp_load_mid 196 (.tmp 34) x7 gb (r*64) (by rw [put_other _ _ _ _ (by decide)];exact c34) cr _ gr Tryz.underlying196 rfl zr ?_
   refine hK _ _ ?_
   rw [d7]
   exact fin
 · rw [if_pos (wanted_of k7)]
   refine wp_load_mid 196 (.tmp 34) x7 gb (r*64) c34 cr _ gr Tryz.underlying196 rfl zr ?_
   refine hK _ _ ?_
   rw [d7]
   refine wpAny_ready (rs:=[4]) (by kernel_rfl) (by simp) ?_
   refine AllReady.cons g4 (fun K hK=>?_) AllReady.nil
   rw [if_pos (wanted_of k4)]
   refine wp_load_mid 196 (.tmp 31) x4 gb (p*64) (by rw [put_other _ _ _ _ (by decide)];exact c31) cp _ gp Tryz.underlying196 rfl zp ?_
   refine hK _ _ ?_
   rw [d4,put_comm _ _ _ _ _ (by decide)]
   exact fin
theorem wpList_gst (w:World) {ops:Array Oper} {rest:List Oper} {o:Oper} {a:Act} {Q:Exit→Act→World→Prop} (h2:o.guard=none) (x y:Operand) (ho:o.op=.store 222 x y)
 (g:Nat) (f:Nat→Nat) (cs old:Array Value) (hx:a.eval x=.pointer (some ⟨g,0,none⟩)) (hy:a.eval y=.agg cs) (hg:w.heap[g]?=some (.cells old 222 (0,0))) (hold:old.size=4096) (h1:cs.size=4096) (h0:∀ j,j < 4096→cs[j]?=some (tv f j))
 (hK:∀ w2,w2.rowIs g 222 4096 (tv f)→w.grownBy w2 (some g)→wpList Tryz.prog ops Q rest (a.put o.dst undef) w2):wpList Tryz.prog ops Q (o :: rest) a w:=by
 refine wpList_store_row h2 222 x y ho g cs hx hy 222 old hg (by rw [Tryz.sizeGrid,h1]) (by omega) (one_cells2 h1 h0) (hK _ ?_ ?_)
 · exact ⟨cs,setRow_heap w g old cs _ _ hg,h1,h0⟩
 · refine ⟨rfl,rfl,rfl,by simp,fun k hk h3=>?_⟩
   have:g≠k:=fun e=>h3 (by rw [e])
   simp [World.setRow,Array.getElem?_modify,this]
theorem row_setCells:∀ (vs:List Value) (o:Nat) (w:World) (f:Nat→Value),w.rowIs b t n f→(w.setCells b o vs).rowIs b t n (fun x=>if o≤x∧x < o+vs.length then vs.getD (x - o) undef else f x)
 | [],o,w,f,h=>h.congr (fun i _=>by rw [if_neg (by simp)])
 | v :: vs,o,w,f,h=>(row_setCells vs (o+1) _ _ (h.set o v)).congr (fun i _=>by
  by_cases h1:o+1≤i∧i < o+1+vs.length
  · have e:i - o=(i - (o+1))+1:=by omega
    rw [if_pos h1,if_pos (by simp;omega),e]
    simp
  · rw [if_neg h1]
    by_cases h2:i=o
    · subst h2
      rw [if_pos rfl,if_pos (by simp)]
      simp
    · rw [if_neg h2,if_neg (by simp;omega)])
theorem grown_setCells:∀ (vs:List Value) (o:Nat) (w w':World),w.grownBy w' (some b)→w.grownBy (w'.setCells b o vs) (some b)
 | [],_,_,_,h=>h
 | v :: vs,o,w,_,h=>grown_setCells vs (o+1) w _ (grown_set h o v)
def cel (G:Nat→Nat) (i:Nat):List Value:=(List.range 64).map fun j=>tv G (i*64+j)
theorem cel_len (G:Nat→Nat) (i:Nat):(cel G i).length=64:=by simp [cel]
theorem cel_getD (G:Nat→Nat) (i j:Nat) (h:j < 64):(cel G i).getD j undef=tv G (i*64+j):=by simp [cel,h]
theorem cel_range (h:w.rowIs b t 4096 (tv G)) {i:Nat} (hi:i < 64):w.rangeAt b (i*64) (cel G i):=by
 intro j v hv
 have hj:j < 64:=by
  obtain ⟨q,_⟩:=List.getElem?_eq_some_iff.1 hv
  rwa [cel_len] at q
 simp [cel,hj] at hv
 rw [h.cell (by omega),hv]
theorem cel_there {f:Nat→Value} (h:w.rowIs b t 4096 f) {i n:Nat} (hi:i < 64) (hn:n≤64):w.there b (i*64) n:=fun j hj=>by
 rw [h.cell (by omega)]
 exact ⟨rfl,h.frozen _⟩
theorem cel_one (G:Nat→Nat) (i:Nat):(cel G i).toArray.all (fun v=>v.oneCell')=true:=by
 rw [Array.all_eq_true]
 intro j hj
 simp [cel,tv]
 rfl
theorem sw_row (h:w.rowIs b t 4096 (tv G)) (p r:Nat):((w.setCells b (r*64) (cel G p)).setCells b (p*64) (cel G r)).rowIs b t 4096 (tv (swG G p r)):=by
 refine (row_setCells (cel G r) (p*64) _ _ (row_setCells (cel G p) (r*64) _ _ h)).congr (fun x _=>?_)
 rw [cel_len,cel_len]
 by_cases h1:p*64≤x∧x < p*64+64
 · have e1:x / 64=p:=by omega
   have e2:x - p*64=x % 64:=by omega
   rw [if_pos h1,e2,cel_getD _ _ _ (by omega)]
   unfold tv swG
   rw [e1]
   by_cases e3:p=r
   · rw [if_pos e3,e3]
   · rw [if_neg e3,if_pos rfl]
 · rw [if_neg h1]
   by_cases h2:r*64≤x∧x < r*64+64
   · have e1:x / 64=r:=by omega
     have e2:x - r*64=x % 64:=by omega
     rw [if_pos h2,e2,cel_getD _ _ _ (by omega)]
     unfold tv swG
     rw [if_pos e1]
   · rw [if_neg h2]
     unfold tv swG
     rw [if_neg (by omega),if_neg (by omega)]
def GpR (G:Nat→Nat) (r c n:Nat) (rv iv:Value):Prop:=∃ k:Nat,r≤k∧k≤n∧rv=.int .i64 (r:Nat)∧iv=.int .i64 (k:Nat)∧∀ i,r≤i→i < k→G (i*64+c)=0
def GcR (w:World) (b:Nat) (D:List (List Nat)) (rv cv:Value) (wr:World):Prop:=
 ∃ (r c:Nat) (G:Nat→Nat),c≤64∧rv=.int .i64 (r:Nat)∧cv=.int .i64 (c:Nat)∧GI D c r D.length G∧wr.rowIs b 222 4096 (tv G)∧Below w.heap.size w wr
theorem rank_any (vd:Value) (D:List (List Nat)) (w:World) (hd:Rd w vd D) (hb:∀ l∈D,∀ x∈l,x < 256) :
 Calls Tryz.prog 74 #[vd] w fun e w'=>RkPost D w e w':=by
 have HD:=hide hd
 have kb:=zeroGrid
 obtain ⟨ao,c,rfl,hl,hc⟩:=hd
 clear hc
 by_cases hf:FitG D
 · have hh:=hf.1
   have HF:=hide hf
   clear hf
   go_enter Tryz.func74,Tryz.ntmps74
   go_wp2
   go_step3
   go_wp2_with (first
    | (go_at_call 97;refine (fits_any _ D _ HD.out).mono ?_;rintro e wv ⟨h1,_,rfl⟩;obtain rfl:=h1 HF.out)
    | (go_at_call 98;refine (lay_any _ D _ HD.out HF.out).mono ?_;rintro e wa ⟨cs,rfl,hq,h7,h4⟩)
    | (refine wpList_gst _ rfl (.tmp 3) (.tmp 11) rfl wa.heap.size (gridOf D) cs _ rfl rfl (heap_alloc_last wa _) (by simp) hq h7 ?_;intro wb hr hs))
   have hx:Below wv.heap.size wv wb:=grown_below (h4.alloc h4.size _) hs (by rw [nblk_alloc];have:=h4.size;omega) h4.size
   have hy:=GI.start hb HF.out
   have kc:=h4.size
   have hz:=hide hy
   clear h7 hq h4 hs kb hy
   generalize wa.heap.size=gb at *
   go_step3
   go_wp2
   go_loopw [4,12] (fun rv cv wr=>GcR wv gb D rv cv wr) (fun _ cv _=>64 - (intOf cv).toNat)
   case atStart=>exact ⟨0,0,gridOf D,by omega,rfl,rfl,hz.out,hr,hx⟩
   case round=>
    clear hr hx hz
    rename World=>wo
    obtain ⟨r,c2,G,kd,rfl,rfl,h5,hR,hi⟩:=hrel
    have ke:=h5.rle
    by_cases he:c2 < 64
    · have hj:=hide h5
      have HR:=hide hR
      have hk:=hide hi
      clear h5 hR hi
      go_wp2
      go_loop [4,6] (fun rv iv=>GpR G r c2 D.length rv iv) (fun _ iv=>D.length - (intOf iv).toNat)
      case atStart=>exact ⟨r,Nat.le_refl _,ke,rfl,rfl,fun i h1 h2=>absurd h1 (by omega)⟩
      case round=>
       obtain ⟨p,kf,kr,rfl,rfl,hg⟩:=hrel
       by_cases kg:p < D.length
       · have h8:wo.cell? ⟨gb,p*64+c2,none⟩=some (.int .u8 ((G (p*64+c2):Nat):Int)):=HR.out.cell (by omega)
         have kh:=hide hg
         clear hg
         by_cases h9:G (p*64+c2)=0
         · rw [h9] at h8
           have HX:=hide h9
           clear h9
           go_wp2
           go_round
           case rel=>
            refine ⟨p+1,by omega,by omega,rfl,by go_num,fun i h1 h2=>?_⟩
            by_cases e:i=p
            · subst e;exact HX.out
            · exact kh.out i h1 (by omega)
           case measure=>simp [intOf];omega
         · have t0:(((G (p*64+c2):Nat):Int) == 0)=false:=by rw [beq_eq_false_iff_ne];omega
           have ki:=hide (hj.out.pivot he kf kg h9)
           clear h9
           have hm:wo.drew.rowIs gb 222 4096 (tv G):=HR.out
           have k0:swG G p r (r*64+c2)=G (p*64+c2):=by rw [swG_at G p r r c2 he,if_pos rfl]
           have hn:=hide k0
           have kj:=hide (swG_lt hj.out.byt p r)
           have h0:p < 64:=by omega
           have h3:r < 64:=by omega
           clear k0
           obtain ⟨wx,k5,k6,k7⟩:∃ wx,(wo.drew.setCells gb (r*64) (cel G p)).setCells gb (p*64) (cel G r)=wx∧wx.rowIs gb 222 4096 (tv (swG G p r))∧wo.drew.grownBy wx (some gb):=
            ⟨_,rfl,sw_row hm p r,grown_setCells (b:=gb) (cel G r) (p*64) wo.drew _ (grown_setCells (b:=gb) (cel G p) (r*64) wo.drew wo.drew (World.grownBy.refl _ _))⟩
           have kk:=hide k6
           have km:=hide k7
           have k8:=hide k5
           have ha:=hide hm
           clear k6 k7 k5 hm
           go_wp2
           refine exchange gb p r (cel G p) (cel G r) (by kernel_rfl) (fun _ _ _ _ _ h=>h) rfl h0 h3 rfl rfl rfl (cel_len _ _) (cel_len _ _) (cel_one _ _) (cel_one _ _) (cel_range ha.out h0) (cel_range ha.out h3) (cel_there ha.out h3 (Nat.le_refl _)) (cel_there ha.out h0 (Nat.le_refl _)) ?_
           rw [k8.out]
           clear k8 ha
           unfold act12
           generalize (cel G p).toArray=cp
           generalize (cel G r).toArray=cr
           go_wp2_with (go_at_call 99;refine (workOff_any gb r c2 D.length (swG G p r) _ kj.out kk.out (by omega) he hh).mono ?_;rintro e w2 ⟨rfl,hp,k9⟩)
           have kn:w2.rowIs gb 222 4096 (tv (nxG G p r c2 D.length)):=by
            rw [hn.out] at hp;exact hp
           have h6:=grown_trans km.out k9
           have ko:=grown_below hk.out (w:=wo) ⟨h6.os,h6.tape,h6.output,h6.size,h6.block⟩ hk.out.size kc
           clear hp k9 h6
           go_wp2
           go_roundw
           case rel=>exact ⟨r+1,c2+1,nxG G p r c2 D.length,by omega,by go_num,by go_num,ki.out,kn,ko⟩
           case measure=>simp [intOf];omega
       · have kp:=hide (hj.out.skip he (fun i h1 h2=>hg i h1 (by omega)))
         clear hg
         go_wp2
         go_roundw
         case rel=>exact ⟨r,c2+1,G,by omega,rfl,by go_num,kp.out,HR.out,hk.out⟩
         case measure=>simp [intOf];omega
    · have ka:c2=64:=by omega
      rw [ka] at h5
      have HK:=hide h5.done
      clear h5 ka
      go_wp2
      try rw [Exit.noGoto_ret]
      go_ret
      exact ⟨fun _=>⟨r,by omega,rfl,HK.out⟩,fun h=>absurd HF.out h,hi⟩
 · have HN:=hide hf
   clear hf
   go_enter Tryz.func74,Tryz.ntmps74
   go_wp2
   go_step3
   go_wp2_with (go_at_call 97;refine (fits_any _ D _ HD.out).mono ?_;rintro e w' ⟨_,h2,rfl⟩;obtain rfl:=h2 HN.out)
   try rw [Exit.noGoto_ret]
   go_ret
   exact ⟨fun h=>absurd h HN.out,fun _=>rfl,Below.refl _ _⟩
theorem Tab.rdH {B D:Nat} {T:List (Nat×Nat×List Nat)} {M:List (List Nat)} (h:Tab w B v T) (hH:Holds T D M) (hD:∀ r∈M,r.length=D) (hl:M.length≤100000):Rd w v M:=by
 have h0:T.length=M.length:=by simpa using congrArg List.length hH
 obtain ⟨ao,cap,rfl,h2⟩:=h.slice
 refine ⟨ao,cap,by rw [h0],by omega,fun hM=>?_⟩
 obtain ⟨g,rfl⟩:=h2 (by intro e;rw [e] at h0;exact hM (List.eq_nil_of_length_eq_zero h0.symm))
 refine ⟨g,0,rfl,fun i hi=>?_⟩
 have h1:i < T.length:=by omega
 refine ⟨hdr T[i],by rw [Nat.zero_add];exact h.cell_at h1,?_⟩
 have:=h.row_at h1
 have h3:T[i].2=(D,M[i]):=by
  have:=congrArg (fun l=>l[i]?) hH
  simpa [h1,hi] using this
 rw [h3] at this
 have e:(M[i]).take D=M[i]:=by rw [← hD _ (List.getElem_mem hi),List.take_length]
 rw [e] at this
 exact this
theorem Rd.byte (h:Rd w v D):∀ l∈D,∀ x∈l,x < 256:=by
 rcases h.cases with ⟨rfl,_⟩ | ⟨b,off,c,rfl,_,hc⟩
 · intro l hl;simp at hl
 · intro l hl
   obtain ⟨i,hi,rfl⟩:=List.mem_iff_getElem.1 hl
   obtain ⟨u,_,hu⟩:=hc i hi
   exact hu.lt
theorem mat_len (D L G:Nat):(matL D L G).length=D+L+G:=by simp [matL];omega
theorem mat_row (D L G:Nat):∀ r∈matL D L G,r.length=D:=by
 intro r hr
 simp only [matL,List.mem_append,List.mem_map,List.mem_range] at hr
 rcases hr with (⟨i,_,rfl⟩ | ⟨i,_,rfl⟩) | ⟨i,_,rfl⟩
 · simp [dataL]
 · simp [localL]
 · simp [globalL]
theorem mat_byte (D L G:Nat) (hD:D≤12) (hG:G≤4):∀ r∈matL D L G,∀ x∈r,x < 256:=by
 intro r hr x hx
 simp only [matL,List.mem_append,List.mem_map,List.mem_range] at hr
 rcases hr with (⟨i,_,rfl⟩ | ⟨i,_,rfl⟩) | ⟨i,hi,rfl⟩
 · rcases List.mem_or_eq_of_mem_set hx with h | h
   · have:=List.eq_of_mem_replicate h;omega
   · omega
 · simp only [localL,List.mem_map] at hx
   obtain ⟨j,_,rfl⟩:=hx
   split <;> decide
 · simp only [globalL,List.mem_map,List.mem_range] at hx
   obtain ⟨j,hj,rfl⟩:=hx
   exact gi_lt (xlt (by omega) (by omega))
def Told (D L G lost:Nat):Prop:=Full (Rem (keepTo (matL D L G) lost (D+L+G)) 0) 0 D
theorem told_iff {D L G lost:Nat} (hD:D≤12) (hG:G≤4) (h:RankIs (keepTo (matL D L G) lost (D+L+G)) k):k=D↔Told D L G lost:=by
 have hm:=keep_mem (matL D L G) lost (D+L+G) (by rw [mat_len];omega)
 exact rank_full (fun l hl=>mat_byte D L G hD hG l (hm l hl)) (fun l hl=>by rw [mat_row D L G l (hm l hl)];omega) (by omega) h
theorem keep_fit (D L G lost:Nat) (hD:D≤12) (hL:L≤4) (hG:G≤4):FitG (keepTo (matL D L G) lost (D+L+G)):=by
 refine ⟨Nat.le_trans (keep_len _ _ _) (by omega),fun i hi=>?_⟩
 rw [mat_row D L G _ (keep_mem (matL D L G) lost (D+L+G) (by rw [mat_len];omega) _ (List.getElem_mem hi))]
 omega
def DcPost (D L G lost:Nat) (w:World) (e:Ending) (w':World):Prop:=∃ b:Bool,e=.returned (.bool b)∧(b=true↔Told D L G lost)∧Below w.heap.size w w'
theorem decodable_right (D L G lost:Nat) (hr:rightB D L G=true) (hD:D≤12) (hL:1≤L) (h9:L≤4) (hG:G≤4) (h6:D % L=0) (hl:lost < 18446744073709551616) (w:World) :
 Calls Tryz.prog 56 #[.agg #[.int .i64 D,.int .i64 L,.int .i64 G],.int .u64 lost] w fun e w'=>DcPost D L G lost w e w':=by
 go_enter Tryz.func56,Tryz.ntmps56
 go_wp2_with fail
 refine (matrix_right D L G hr hD hL h9 hG h6 _).mono ?_
 rintro e w1 ⟨v,T,rfl,hT,hH,h2⟩
 rw [nblk_alloc] at hT h2
 have he:=h2.size
 rw [nblk_alloc] at he
 obtain ⟨p0,p1,p2⟩:=box_cells h2
 have ha:=hT.rdH hH (mat_row D L G) (by rw [mat_len];omega)
 have h3:Below w.heap.size w w1:=((Below.refl _ _).alloc (Nat.le_refl _) _).trans (h2.mono (by omega))
 have hf:=hide ha
 have hg:=hide h3
 clear hT hH h2 p1 p2 ha h3
 go_wp2
 go_region_held (fun w'=>w'.cell? ⟨w.heap.size,0,none⟩=some (.int .i64 (D:Nat))) (first | assumption | exact p0)
  (first
   | (go_at_call 75;refine (kept_any _ (matL D L G) lost _ (show Rd w1.drew _ _ from hf.out) hl (by rw [mat_len];omega)).mono ?_;rintro e w2 ⟨v2,rfl,h5⟩;rw [mat_len] at h5
      have p02:w2.cell? ⟨w.heap.size,0,none⟩=some (.int .i64 (D:Nat)):=by rw [h5.choose_spec.2.2.2.cell (block_lt_of_cell p0)];exact p0
      have h7:=hide h5
      clear h5)
   | (go_at_call 74;refine (rank_any _ _ _ (h7.out.rd (Nat.le_trans (keep_len _ _ _) (by omega))) (h7.out.rd (Nat.le_trans (keep_len _ _ _) (by omega))).byte).mono ?_
      rintro e w3 ⟨h1,_,h4⟩;obtain ⟨k,hk,rfl,hc⟩:=h1 (keep_fit D L G lost hD h9 hG)
      have p03:w3.cell? ⟨w.heap.size,0,none⟩=some (.int .i64 (D:Nat)):=by rw [h4.cell (block_lt_of_cell p02)];exact p02
      have hh:=hide hc
      have hi:=hide h4
      clear h1 hc h4))
 go_wp2
 go_ret
 have h0:=h7.out.choose_spec.2.2.2
 have h4:=hi.out
 have hj:=h0.size
 change w1.heap.size≤_ at hj
 have h8:Below w.heap.size w w2:=hg.out.trans ((show Below w1.heap.size w1 w2 from ⟨h0.os,h0.tape,h0.output,h0.size,h0.block⟩).mono (by omega))
 refine ⟨((k:Int) == (D:Int)),rfl,?_,h8.trans (h4.mono (by omega))⟩
 rw [← told_iff hD hG hh.out]
 simp
 omega
theorem has_any (lost k:Nat) (hl:lost < 18446744073709551616) (hk:k≤64) (w:World) :
 Calls Tryz.prog 17 #[.int .u64 lost,.int .i64 k] w fun e w'=>e=.returned (.bool (((lost / 2^k % 2:Nat):Int) == 1))∧w'=w:=by
 have h0:=bit_u64 lost k hl
 go_enter Tryz.func17,Tryz.ntmps17
 go_wp2
 go_ret
 exact ⟨rfl,rfl⟩
theorem rdecodable_right (D L G lost:Nat) (hr:rightB D L G=true) (hD:D≤12) (hL:1≤L) (hg:L≤4) (hG:G≤4) (h5:D % L=0) (hl:lost < 18446744073709551616) (w:World) :
 Calls Tryz.prog 9 #[.agg #[.int .i64 D,.int .i64 L,.int .i64 G],.int .u64 lost] w fun e w'=>DcPost D L G lost w e w':=by
 obtain ⟨i0,k0,k5,k6,k7⟩:=info_parts Tryz.infoBytes
 go_enter Tryz.func9,Tryz.ntmps9
 go_wp2_with fail
 refine (rmatrix_right D L G hr hD hL hg hG h5 _).mono ?_
 rintro e w1 ⟨v,T,rfl,hT,hH,h6⟩
 rw [nblk_alloc] at hT h6
 have k8:=h6.size
 rw [nblk_alloc] at k8
 obtain ⟨p0,p1,p2⟩:=box_cells h6
 have hh:=hT.rdH hH (mat_row D L G) (by rw [mat_len];omega)
 have h7:Below w.heap.size w w1:=((Below.refl _ _).alloc (Nat.le_refl _) _).trans (h6.mono (by omega))
 have k9:=hide h7
 have ha:=mat_len D L G
 have ka:(matL D L G).length≤64:=by omega
 clear hT hH h6 p1 p2 h7
 have hi:=hide (fun k=>told_iff (lost:=lost) (L:=L) (k:=k) hD hG)
 have hm:=hide (keep_fit D L G lost hD hg hG)
 rw [← ha] at hi hm
 have kb:=hide ha
 clear ha hr h5
 generalize matL D L G=M at *
 rcases hh.cases with ⟨rfl,ao,c,rfl⟩ | ⟨b,off,c,rfl,_,hc⟩
 · exfalso
   have:=kb.out
   simp at this
   omega
 · clear hh
   go_wp2
   go_loopw [7,8] (fun v i wr=>KpR w1 M lost v i wr) (fun _ i _=>M.length - (intOf i).toNat)
   case atStart=>exact ⟨0,Nat.zero_le _,rfl,Rl.nil _⟩
   case round=>
    rename World=>wo
    obtain ⟨k,hk,rfl,hR⟩:=hrel
    have p0o:wo.cell? ⟨w.heap.size,0,none⟩=some (.int .i64 (D:Nat)):=by rw [hR.choose_spec.2.2.2.cell (block_lt_of_cell p0)];exact p0
    by_cases hn:k < M.length
    · obtain ⟨u,hu,hB⟩:=hc k hn
      have kc:wo.cell? ⟨b,off+k,none⟩=some u:=by rw [hR.choose_spec.2.2.2.cell (block_lt_of_cell hu)];exact hu
      obtain ⟨au,cu,rfl,_⟩:=id hB
      have HK:=hide (keep_len M lost k)
      have HC:=hide hc
      have HB:=hide hB
      have HU:=hide hu
      have h8:M.getD k []=M[k]:=by simp [hn]
      have kd:=hide h8
      clear hc hB hu h8
      by_cases hz:lost / 2^k % 2=0
      · have HZ:=hide (show (((lost / 2^k % 2:Nat):Int) == 1)=false by rw [hz];rfl)
        have ke:=hide (keep_in M lost k hz)
        clear hz
        obtain ⟨xs,h3,hX,h4,he⟩:=hR
        have HX:=hide hX
        have kf:=hide h3
        have kn:xs.length≤64:=by rw [h3];exact Nat.le_trans HK.out (by omega)
        have hs:=he.size
        clear hX h3
        go_wp2_with (first
         | (go_at_call 17;refine (has_any lost k hl (by omega) _).mono ?_;rintro e w' ⟨rfl,hw⟩;have hf:=hw.symm;clear hw;subst hf;rw [HZ.out])
         | (at_builtin;refine wpList_append_own _ rfl (.tmp 29) (.tmp 34) 57 rfl w1.heap.size 33 i0 (.slice none 0 0) 1 24 Tryz.underlying57 k0 k5 k6 k7 rfl (by decide) _ xs.length xs rfl (ownsRow_below h4 ((Below.refl _ _).alloc (Nat.le_refl _) _)) ⟨wo.heap.size,0,none⟩ 1 1 [.slice au (M[k]).length cu] rfl rfl (one_new _ _ rfl _ _) (by intro q hq;simp at hq;rw [hq];exact HB.out.one) (by unfold maxLen;omega) (by omega) (by rw [nblk_alloc];omega) ?_;intro v' w2 h0 h2 kg))
        have hp:=Rl.push kf.out HX.out h4 he rfl HB.out h2 h0
        rw [← kd.out,← ke.out] at hp
        clear h4 h0 h2 kg he kc p0o
        go_wp2
        go_roundw
        case rel=>exact ⟨k+1,by omega,by go_num,hp⟩
        case measure=>simp [intOf];omega
      · have h1:lost / 2^k % 2=1:=by omega
        have HZ:=hide (show (((lost / 2^k % 2:Nat):Int) == 1)=true by rw [h1];rfl)
        have kh:=hide (keep_out M lost k hz)
        clear hz h1
        have HR:=hide hR
        clear hR
        go_wp2_with (go_at_call 17;refine (has_any lost k hl (by omega) _).mono ?_;rintro e w' ⟨rfl,hw⟩;have hf:=hw.symm;clear hw;subst hf;rw [HZ.out])
        go_roundw
        case rel=>exact ⟨k+1,by omega,by go_num,by rw [kh.out];exact HR.out⟩
        case measure=>simp [intOf];omega
    · have ki:k=M.length:=by omega
      rw [ki] at hR
      have HR:=hide hR
      have kj:=hide (hR.rd (Nat.le_trans (keep_len _ _ _) (by omega)))
      clear hc hR
      go_wp2_with fail
      refine (rrank_any _ _ _ kj.out).mono ?_
      rintro e w3 ⟨h1,_,h9⟩
      obtain ⟨j,hj,rfl,hx⟩:=h1 hm.out
      have p03:w3.cell? ⟨w.heap.size,0,none⟩=some (.int .i64 (D:Nat)):=by rw [h9.cell (block_lt_of_cell p0o)];exact p0o
      have kk:=hide hx
      have km:=hide h9
      clear h1 hx h9
      go_wp2
      go_ret
      have hy:=HR.out.choose_spec.2.2.2
      have h9:=km.out
      have ko:=hy.size
      refine ⟨((j:Int) == (D:Int)),rfl,?_,(k9.out.trans (hy.mono (by omega))).trans (h9.mono (by omega))⟩
      rw [← hi.out _ kk.out]
      simp
      omega
end Go.Proofs.YthcgahldacpolaaGreatDoor
