import Derived.Test.YthcgahldacpolaaGreatDoorM21
set_option maxRecDepth 100000
set_option maxHeartbeats 8000000
namespace Go.Proofs.YthcgahldacpolaaGreatDoor
open Go.RowKit
variable {A:Arr} {F:Foot} {M:List (List Nat)} {dl:List Nat} {D base v L G p ps ho:Nat} {K:Nat→Prop} {u:Value} {w w':World}
section
open Go.Shelf Go.Deep Gf
def stripeL (D L G:Nat) (dl:List Nat):List (List Nat):=encL (matL D L G) (rowsD D dl) 44
theorem stripeL_len (D L G:Nat) (dl:List Nat):(stripeL D L G dl).length=D+L+G:=by unfold stripeL encL;rw [List.length_map,mat_len]
theorem rowsD_fit (hl:dl.length≤D*44) (h2:1≤D):Fit (rowsD D dl)∧((rowsD D dl).getD 0 []).length=44:=by
 have h0:((rowsD D dl).getD 0 []).length=44:=by
  have e:(rowsD D dl).getD 0 []=(rowsD D dl)[0]'(by rw [rowsD_len];omega):=by simp [rowsD_len,show 0 < D by omega]
  rw [e,rowsD_at];exact rowsD_row hl (by omega)
 refine ⟨fun i hi=>?_,h0⟩
 have h1:=hi
 rw [rowsD_len] at h1
 unfold okRow
 rw [h0,rowsD_at hi,rowsD_row hl h1]
 exact ⟨rfl,by decide⟩
noncomputable def RWp:Array Oper:=((Tryz.f126.body.bind (rgf · 1))).getD #[]
def shWp:List (Op×Option Nat×List Nat):=[(Op.move (.tmp 0),some 11,[]),
 (Op.nilCheck (.tmp 11),some 12,[0]),
 (Op.fieldAddr 108 (.tmp 12) 1,some 13,[1]),
 (Op.load 23 (.tmp 13),some 14,[2]),
 (Op.move (.tmp 0),some 15,[]),
 (Op.move (.tmp 2),some 16,[]),
 (Op.call { callee:=Callee.value (Operand.func 142),args:=#[.tmp 15,.tmp 16],argTypes:=#[91,33] },some 17,[4,5]),
 (Op.call { callee:=Callee.value (Operand.func 141),args:=#[.tmp 14,.tmp 17],argTypes:=#[23,57] },some 18,[3,6,6]),
 (Op.move (.tmp 18),some 10,[7]),
 (Op.extract (.tmp 10) 0,some 19,[8]),
 (Op.extract (.tmp 10) 1,some 20,[8]),
 (Op.assign (.tmp 19),some 7,[9,7,0,1,2,3,4,5,6,7,8,9]),
 (Op.assign (.tmp 20),some 8,[10,11,0,1,2,3,4,5,6,7,8,9,10,11])]
theorem RWp_shape:RegShape RWp 7 21 shWp:=regShape (by kernel_rfl) (by kernel_rfl)
def MadeR (w:World) (base:Nat) (M:List (List Nat)) (u:Value):Prop:=∃ T,Tab w base u T∧Holds T 44 M
theorem MadeR.mono (h:MadeR w base M u) (hb:Below w.heap.size w w'):MadeR w' base M u:=by
 obtain ⟨T,h1,h2⟩:=h
 exact ⟨T,h1.below hb,h2⟩
def VWp (v D L G base:Nat) (vd:Value) (dl:List Nat) (i:Nat) (u:Value) (w:World):Prop:=match i with
 | 0 | 1 | 4=>u=.pointer (some ⟨v,0,none⟩)
 | 2=>u=.pointer (some ⟨v,1,none⟩)
 | 3=>u=.agg #[.int .i64 D,.int .i64 L,.int .i64 G]
 | 5=>u=vd
 | 6=>Rd w u (rowsD D dl)
 | 7 | 8=>∃ x,u=.tuple #[x,.nilIface]∧MadeR w base (stripeL D L G dl) x
 | 9 | 11=>MadeR w base (stripeL D L G dl) u
 | 10 | 12=>u=.nilIface
 | _=>True
theorem VWp_mono {vd:Value} (hb:Below w.heap.size w w') (i:Nat) (u:Value) (h:VWp v D L G base vd dl i u w):VWp v D L G base vd dl i u w':=by
 match i,h with
 | 0,h | 1,h | 2,h | 3,h | 4,h | 5,h | 10,h | 12,h=>exact h
 | 6,h=>exact Rd.mono h hb
 | 7,⟨x,h1,h2⟩=>exact ⟨x,h1,h2.mono hb⟩
 | 8,⟨x,h1,h2⟩=>exact ⟨x,h1,h2.mono hb⟩
 | 9,h | 11,h=>exact MadeR.mono h hb
 | i+13,_=>trivial
theorem writeStripe_region {ops:Array Oper} {Q:Exit→Act→World→Prop} {a:Act} (h6:RWp=ops) (hV:VolAt w v p D L G ps ho) (hr:rightB D L G=true) (h9:1≤D) (hD:D≤12) (hL:1≤L) (hc:L≤4) (hG:G≤4) (h7:D % L=0)
 (vd:Value) (dl:List Nat) (hd:Bs w vd dl) (hl:dl.length≤D*44) (hh:a.tmps.size=42) (e0:a.eval (.tmp 0)=.pointer (some ⟨v,0,none⟩)) (e2:a.eval (.tmp 2)=vd)
 (hQ:∀ (w':World) (vs:List Value) (x:Value),vs.length=11→MadeR w' w.heap.size (stripeL D L G dl) x→Below w.heap.size w w'→Q .normal (Act.putFrom a 7 (x :: .nilIface :: a.eval (.tmp 9) :: vs)) w'):(Code.region 1 ops true).wp Tryz.prog Q a w:=by
 subst h6
 obtain ⟨h8,he⟩:=rowsD_fit hl h9
 refine region_factsS (by kernel_rfl) RWp_shape a w (by omega) (VWp v D L G w.heap.size vd dl) (fun _ w'=>Below w.heap.size w w') ((Below.refl _ w).drew) ?_ ?_
 · intro i hi
   match i,hi with
   | 0,_=>exact fun o a' w' Dn hg ho h0 hk h3 h4 h1 hB h2=>op_val (run_op_move ho ((hk.slot 0 (by omega)).trans e0) w') h0 ⟨hB,rfl,kq⟩
   | 1,_=>
    intro o a' w' Dn hg ho h0 hk h3 h4 h1 hB h2
    have u0:a'.eval (.tmp 11)=.pointer (some ⟨v,0,none⟩):=h2 0 (h1 0 (by decide))
    exact op_val (run_op_nil ho u0 w') h0 ⟨hB,rfl,kq⟩
   | 2,_=>
    intro o a' w' Dn hg ho h0 hk h3 h4 h1 hB h2
    have u0:a'.eval (.tmp 12)=.pointer (some ⟨v,0,none⟩):=h2 1 (h1 1 (by decide))
    exact op_val (v:=.pointer (some ⟨v,1,none⟩)) (by simp only [execOp,show o.op=Op.fieldAddr 108 (.tmp 12) 1 from ho,u0];go_simp) h0 ⟨hB,rfl,kq⟩
   | 3,_=>
    intro o a' w' Dn hg ho h0 hk h3 h4 h1 hB h2
    have u0:a'.eval (.tmp 13)=.pointer (some ⟨v,1,none⟩):=h2 2 (h1 2 (by decide))
    obtain ⟨_,c1,c2,c3,_⟩:=(hV.keep (hB.block _ hV.lt)).cells
    exact op_val (v:=.agg #[.int .i64 D,.int .i64 L,.int .i64 G]) (by simp only [execOp,show o.op=Op.load 23 (.tmp 13) from ho,u0];go_simp) h0 ⟨hB,rfl,kq⟩
   | 4,_=>exact fun o a' w' Dn hg ho h0 hk h3 h4 h1 hB h2=>op_val (run_op_move ho ((hk.slot 0 (by omega)).trans e0) w') h0 ⟨hB,rfl,kq⟩
   | 5,_=>exact fun o a' w' Dn hg ho h0 hk h3 h4 h1 hB h2=>op_val (run_op_move ho ((hk.slot 2 (by omega)).trans e2) w') h0 ⟨hB,rfl,kq⟩
   | 6,_=>
    intro o a' w' Dn hg ho h0 hk h3 h4 h1 hB h2
    have u0:a'.eval (.tmp 15)=.pointer (some ⟨v,0,none⟩):=h2 4 (h1 4 (by decide))
    have u1:a'.eval (.tmp 16)=vd:=h2 5 (h1 5 (by decide))
    refine op_call (f:=142) (args:=#[.pointer (some ⟨v,0,none⟩),vd]) (w1:=w') (by simp only [execOp,show o.op=Op.call { callee:=Callee.value (Operand.func 142),args:=#[.tmp 15,.tmp 16],argTypes:=#[91,33] } from ho];go_simp;exact ⟨by simpa [Act.eval] using u0,by simpa [Act.eval] using u1⟩) h0 (cut_ok (hV.keep (hB.block _ hV.lt)) hD vd dl (hd.mono hB) hl) ?_
    rintro e w'' ⟨u,rfl,hR,hb⟩
    exact ⟨u,rfl,hB.trans (hb.mono hB.size),hR,fun j u _ q=>VWp_mono hb j u q⟩
   | 7,_=>
    intro o a' w' Dn hg ho h0 hk h3 h4 h1 hB h2
    have u0:a'.eval (.tmp 14)=.agg #[.int .i64 D,.int .i64 L,.int .i64 G]:=h2 3 (h1 3 (by decide))
    have u1:Rd w' (a'.eval (.tmp 17)) (rowsD D dl):=h2 6 (h1 6 (by decide))
    have ha:=encode_fit D L G hr h9 hD hL hc hG h7 (a'.eval (.tmp 17)) (rowsD D dl) w' u1 (rowsD_len D dl) h8
    rw [he] at ha
    refine op_call (f:=141) (args:=#[.agg #[.int .i64 D,.int .i64 L,.int .i64 G],a'.eval (.tmp 17)]) (w1:=w') (by simp only [execOp,show o.op=Op.call { callee:=Callee.value (Operand.func 141),args:=#[.tmp 14,.tmp 17],argTypes:=#[23,57] } from ho];go_simp;simpa [Act.eval] using u0) h0 ha ?_
    rintro e w'' ⟨x,T,rfl,hT,hH,hb⟩
    exact ⟨_,rfl,hB.trans (hb.mono hB.size),⟨x,rfl,T,hT.weaken hB.size,hH⟩,fun j u _ q=>VWp_mono hb j u q⟩
   | 8,_=>
    intro o a' w' Dn hg ho h0 hk h3 h4 h1 hB h2
    obtain ⟨x,u0,hx⟩:VWp v D L G w.heap.size vd dl 7 (a'.eval (.tmp 18)) w':=h2 7 (h1 7 (by decide))
    exact op_val (run_op_move ho u0 w') h0 ⟨hB,⟨x,rfl,hx⟩,kq⟩
   | 9,_=>
    intro o a' w' Dn hg ho h0 hk h3 h4 h1 hB h2
    obtain ⟨x,u0,hx⟩:VWp v D L G w.heap.size vd dl 8 (a'.eval (.tmp 10)) w':=h2 8 (h1 8 (by decide))
    exact op_val (v:=x) (by simp only [execOp,show o.op=Op.extract (.tmp 10) 0 from ho,u0];go_simp) h0 ⟨hB,hx,kq⟩
   | 10,_=>
    intro o a' w' Dn hg ho h0 hk h3 h4 h1 hB h2
    obtain ⟨x,u0,hx⟩:VWp v D L G w.heap.size vd dl 8 (a'.eval (.tmp 10)) w':=h2 8 (h1 8 (by decide))
    exact op_val (v:=.nilIface) (by simp only [execOp,show o.op=Op.extract (.tmp 10) 1 from ho,u0];go_simp) h0 ⟨hB,rfl,kq⟩
   | 11,_=>
    intro o a' w' Dn hg ho h0 hk h3 h4 h1 hB h2
    have u0:MadeR w' w.heap.size (stripeL D L G dl) (a'.eval (.tmp 19)):=h2 9 (h1 9 (by decide))
    exact op_val (v:=a'.eval (.tmp 19)) (by simp [execOp,show o.op=Op.assign (.tmp 19) from ho]) h0 ⟨hB,u0,kq⟩
   | 12,_=>
    intro o a' w' Dn hg ho h0 hk h3 h4 h1 hB h2
    have u0:a'.eval (.tmp 20)=.nilIface:=h2 10 (h1 10 (by decide))
    exact op_val (v:=.nilIface) (by simp [execOp,show o.op=Op.assign (.tmp 20) from ho,u0]) h0 ⟨hB,rfl,kq⟩
   | n+13,hn=>exact absurd hn (by show ¬ n+13 < 13;omega)
 · rintro a' w' hf h5 ⟨Dn,hD,hB⟩ h2
   have e:a'=Act.putFrom a 7 (a'.eval (.tmp 7) :: .nilIface :: a.eval (.tmp 9) :: (List.range 11).map fun i=>a'.eval (.tmp (10+i))):=hf.out _ (by simp) (by omega) (fun i hi=>by
    simp at hi
    match i,hi with
    | 0,_=>rfl
    | 1,_=>exact h2 12 (by decide)
    | 2,_=>exact h5 9 (by decide)
    | i+3,hi=>
     rw [List.getD_cons_succ,List.getD_cons_succ,List.getD_cons_succ,List.getD_eq_getElem?_getD,List.getElem?_map,List.getElem?_range (by omega),show 7+(i+3)=10+i by omega];rfl)
   rw [e]
   exact hQ w' _ _ (by rw [List.length_map,List.length_range]) (h2 11 (by decide)) hB
theorem stripeL_row (hD:D≤12) (hG:G≤4) (dl:List Nat) (i:Nat) (hi:i < (stripeL D L G dl).length):((stripeL D L G dl)[i]).length=44∧∀ x∈(stripeL D L G dl)[i],x < 256:=by
 have h0:i < (matL D L G).length:=by rw [mat_len];rw [stripeL_len] at hi;exact hi
 have e:(stripeL D L G dl)[i]=combTo (matL D L G)[i] (rowsD D dl) 44 (rowsD D dl).length:=by simp [stripeL,encL]
 rw [e]
 exact ⟨combTo_len _ _ _ _,combTo_lt _ _ (mat_byte D L G hD hG _ (List.getElem_mem h0)) _ _⟩
theorem MadeR.rows (h:MadeR w base M u) (hM:M≠[]) (h2:∀ i (hi:i < M.length),M[i].length=44∧∀ x∈M[i],x < 256):∃ g c,u=.slice (some ⟨g,0,none⟩) M.length c∧Rws w base g M:=by
 obtain ⟨T,hT,hH⟩:=h
 have h1:T.length=M.length:=by simpa using congrArg List.length hH
 rcases hT.shape with ⟨_,h0⟩ | ⟨g,cap,e1,e2,e3,e4,e5,e6,_,_⟩
 · exact absurd (List.eq_nil_of_length_eq_zero (by rw [← h1,h0];rfl)) hM
 · refine ⟨g,cap,by rw [e1,h1],e2,e5,fun i hi=>?_⟩
   have h3:i < T.length:=by omega
   have h4:=hH.at h3 hi
   obtain ⟨q1,q2,q3,q4,q5⟩:=hT.row T[i] (List.getElem_mem h3)
   have hc:=e6 i h3
   unfold hdr at hc
   rw [h4] at hc q2
   obtain ⟨r1,r2⟩:=h2 i hi
   refine ⟨T[i].1,0,M[i].length,hc,q1,q2.lt,fun j u hu=>?_,r1,r2⟩
   have hh:=q2.heapB
   have h5:(bts M[i]).toArray[j]?=some u:=by simpa using hu
   simp [World.cell?,hh,h5]
theorem list11 {vs:List Value} (h:vs.length=11):∃ x0 x1 x2 x3 x4 x5 x6 x7 x8 x9 xa,vs=[x0,x1,x2,x3,x4,x5,x6,x7,x8,x9,xa]:=by
 match vs,h with
 | [x0,x1,x2,x3,x4,x5,x6,x7,x8,x9,xa],_=>exact ⟨x0,x1,x2,x3,x4,x5,x6,x7,x8,x9,xa,rfl⟩
theorem writeStripe_ok (hV:Vol w v p D L G ps ho A F) (hF:Free F p A.n v) (hf:A.fit) (hn:A.n=D+L+G) (hr:rightB D L G=true) (hp:1≤D) (hD:D≤12) (hL:1≤L) (h9:L≤4) (hG:G≤4) (h4:D % L=0) (h5:D+L+G≤16)
 (b:Nat) (hb:b < A.nb) (hw:A.wait < 0) (hl:∀ i,A.lost i=false) (vd:Value) (dl:List Nat) (hd:Bs w vd dl) (hq:dl.length≤D*44) :
 Calls Tryz.prog 126 #[.pointer (some ⟨v,0,none⟩),.int .i64 b,vd] w fun e w'=>e=.returned .nilIface∧ArrAt w' p (A.putAt (List.range A.n) b (fun i=>(Rec.shard ((stripeL D L G dl).getD i [])).blk)) F∧Outside (F.has p A.n) w w':=by
 have HD:=hide hd
 have h1:=stripeL_len D L G dl
 have h0:=stripeL_row (L:=L) hD hG dl
 obtain ⟨M,hM⟩:∃ M,stripeL D L G dl=M:=⟨_,rfl⟩
 rw [hM] at h1 h0
 have HM:=hide2 hM h1
 clear hM h1
 go_enter Tryz.func126,Tryz.ntmps126
 go_wp2_with fail
 refine writeStripe_region (by kernel_rfl) hV.vol hr hp hD hL h9 hG h4 vd dl HD.out hq rfl rfl rfl ?_
 intro w1 vs x ha h6 h7
 rw [HM.out.1] at h6
 have h1:=HM.out.2
 obtain ⟨x0,x1,x2,x3,x4,x5,x6,x7,x8,x9,xa,rfl⟩:=list11 ha
 obtain ⟨g,c,rfl,hc⟩:=h6.rows (fun e=>by rw [e] at h1;simp at h1;omega) h0
 have he:=hV.below h7 (Nat.le_refl _)
 have H1:=hide3 he hc h7
 clear h6 hc he h7 ha h0 h1
 rename_i hK
 refine hK _ _ ?_
 clear hK
 simp only [Act.putFrom,Act.put,List.setIfInBounds_toArray,List.set_cons_succ,List.set_cons_zero]
 go_wp2_with fail
 refine (volAll_any H1.out.1.vol hD h9 hG h5).mono ?_
 rintro e w2 ⟨rfl,h2⟩
 obtain ⟨S,hS⟩:∃ S,2^(D+L+G) - 1=S:=⟨_,rfl⟩
 rw [hS]
 have h3:mems S=List.range A.n:=by rw [← hS,hn];exact mems_all h5
 have hs:S < 65536:=by
  have:2^(D+L+G)≤2^16:=Nat.pow_le_pow_right (by decide) h5
  omega
 have hg:=H1.out.1.below h2 (Nat.le_refl _)
 have hh:Rws w2 w.heap.size g M:=H1.out.2.1.keep h2.size (fun k _ hk=>h2.block k hk)
 have h8:=writeShards_ok hg hF hf b S hb hs (fun i hi=>by rw [h3] at hi;simpa using hi) hw (fun i _=>hl i) (m:=M.length) (c:=c) hh (fun i hi=>by have:=HM.out.2;rw [h3] at hi;simp at hi;omega) (Nat.le_refl _) (fun k hk=>hV.arr.has_lt hk)
 rw [h3] at h8
 have H2:=hide3 h8 h2 hS
 clear hg hh h8 h2 h3 hS
 go_wp2_with fail
 refine H2.out.1.mono ?_
 rintro e w3 ⟨rfl,hj,hm⟩
 have hO:Outside (F.has p A.n) w w3:=(Outside.of_all (H1.out.2.2.trans (H2.out.2.1.mono H1.out.2.2.size)) _).trans hm
 have H3:=hide2 hj hO
 clear hj hm hO
 go_wp2
 go_ret
 have hA:=H3.out.1
 rw [← HM.out.1] at hA
 exact ⟨rfl,hA,H3.out.2⟩
end
section
open Go.Deep Gf
theorem shards_sz (D L G:Int) (w:World) (h1:0≤D∧D≤100) (h2:0≤L∧L≤100) (h3:0≤G∧G≤100):Calls Tryz.prog 8 #[.agg #[.int .i64 D,.int .i64 L,.int .i64 G]] w fun e w'=>e=.returned (.int .i64 (D+L+G))∧w'=w.alloc (.cells #[.int .i64 D,.int .i64 L,.int .i64 G] 23):=by
 obtain ⟨a1,a2⟩:=h1
 obtain ⟨b1,b2⟩:=h2
 obtain ⟨c1,c2⟩:=h3
 go_enter Tryz.func8,Tryz.ntmps8
 go_wp2
 go_ret
 exact ⟨rfl,rfl⟩
theorem reader_at (h:VolAt w v p D L G ps ho) (hD:D≤12) (hL:L≤4) (hG:G≤4) {N:Nat} (hN:N=D+L+G):Calls Tryz.prog 47 #[.pointer (some ⟨v,0,none⟩)] w fun e w'=>e=.returned (.pointer (some ⟨w.heap.size+2,0,none⟩))∧RdAt w' (w.heap.size+2) v 0 (w.heap.size+1) N 0 0∧w'.rowIs (w.heap.size+1) 33 N (fun _=>.slice none 0 0)∧Below w.heap.size w w':=by
 obtain ⟨_,c1,c2,c3,_⟩:=h.cells
 go_enter Tryz.func47,Tryz.ntmps47
 go_wp2_with fail
 refine (shards_sz (D:Int) (L:Int) (G:Int) w ⟨by omega,by omega⟩ ⟨by omega,by omega⟩ ⟨by omega,by omega⟩).mono ?_
 rintro e w5 ⟨rfl,h3⟩
 rw [show ((D:Int)+(L:Int)+(G:Int))=(N:Int) by omega]
 have h5:N≤20:=by omega
 have h0:Below w.heap.size w w5:=by rw [h3];exact (Below.refl _ w).alloc (Nat.le_refl _) _
 have h2:w5.heap.size=w.heap.size+1:=by rw [h3];simp
 have H5:=hide2 h0 h2
 clear h0 c1 c2 c3 h hN h3 h2
 go_wp2_with (at_make;refine wpList_mkNils _ rfl (.tmp 8) (.tmp 8) rfl _ N rfl rfl rfl (by omega) ?_;intro w6 h1 h4 h6)
 go_ret
 obtain ⟨h0,h2⟩:=H5.out
 have e2:w6.heap.size=w.heap.size+2:=by omega
 rw [h2] at h1 ⊢
 refine ⟨rfl,?_,?_,?_⟩
 · have:=blk_alloc_new w6 (.cells (rdA v 0 (w.heap.size+1) N 0 0) 149)
   rw [e2] at this;exact this
 · exact h1.of_block (blk_alloc_lt _ _ _ (by omega))
 · exact (h0.trans (h4.mono h0.size)).alloc (by omega) _
end
section
open Go.Shelf Gf
attribute [local go_sem] Oper.semAt_some
def Ints (K:Nat→Prop) (w:World) (v:Value) (l:List Nat):Prop:=
 ∃ ao c,v=.slice ao l.length c∧l.length≤1000000∧(l≠[]→∃ b off,ao=some ⟨b,off,none⟩∧K b∧b < w.heap.size∧∀ i (hi:i < l.length),w.cell? ⟨b,off+i,none⟩=some (.int .i64 ((l[i]:Nat):Int)))
structure Ob where
 name:ByteArray
 size:Nat
 stripes:List Nat
def Cat (K:Nat→Prop) (w:World) (v:Value) (os:List Ob):Prop:=
 ∃ ao c,v=.slice ao os.length c∧os.length≤1000000∧(os≠[]→∃ b off,ao=some ⟨b,off,none⟩∧K b∧b < w.heap.size∧∀ i (hi:i < os.length),∃ sv,
  w.cell? ⟨b,off+i*3,none⟩=some (.string os[i].name)∧w.cell? ⟨b,off+i*3+1,none⟩=some (.int .i64 (os[i].size:Nat))∧w.cell? ⟨b,off+i*3+2,none⟩=some sv∧Ints K w sv os[i].stripes)
def KpS (K:Nat→Prop) (w w':World):Prop:=w.heap.size≤w'.heap.size∧∀ k,k < w.heap.size→K k→w'.heap[k]?=w.heap[k]?
theorem KpS.refl (K:Nat→Prop) (w:World):KpS K w w:=⟨Nat.le_refl _,fun _ _ _=>rfl⟩
theorem KpS.trans {a b c:World} (h:KpS K a b) (k:KpS K b c):KpS K a c:=⟨Nat.le_trans h.1 k.1,fun i h1 h2=>(k.2 i (Nat.lt_of_lt_of_le h1 h.1) h2).trans (h.2 i h1 h2)⟩
theorem KpS.of_below (h:Below w.heap.size w w'):KpS K w w':=⟨h.size,fun k hk _=>h.block k hk⟩
theorem Ints.keep {v:Value} {l:List Nat} (h:Ints K w v l) (hk:KpS K w w'):Ints K w' v l:=by
 obtain ⟨ao,c,h1,h2,h3⟩:=h
 refine ⟨ao,c,h1,h2,fun hl=>?_⟩
 obtain ⟨b,off,q1,q2,q3,q4⟩:=h3 hl
 exact ⟨b,off,q1,q2,Nat.lt_of_lt_of_le q3 hk.1,fun i hi=>(World.cell?_of_block (hk.2 b q3 q2)).trans (q4 i hi)⟩
theorem Cat.keep {v:Value} {os:List Ob} (h:Cat K w v os) (hk:KpS K w w'):Cat K w' v os:=by
 obtain ⟨ao,c,h1,h2,h3⟩:=h
 refine ⟨ao,c,h1,h2,fun hl=>?_⟩
 obtain ⟨b,off,q1,q2,q3,q4⟩:=h3 hl
 refine ⟨b,off,q1,q2,Nat.lt_of_lt_of_le q3 hk.1,fun i hi=>?_⟩
 obtain ⟨sv,r1,r2,r3,r4⟩:=q4 i hi
 have hb:=hk.2 b q3 q2
 exact ⟨sv,(World.cell?_of_block hb).trans r1,(World.cell?_of_block hb).trans r2,(World.cell?_of_block hb).trans r3,r4.keep hk⟩
theorem Ints.nil (K:Nat→Prop) (w:World):Ints K w (.slice none 0 0) []:=⟨none,0,rfl,by decide,fun h=>absurd rfl h⟩
theorem Cat.nil (K:Nat→Prop) (w:World):Cat K w (.slice none 0 0) []:=⟨none,0,rfl,by decide,fun h=>absurd rfl h⟩
def allSt (os:List Ob):List Nat:=os.flatMap (·.stripes)
theorem allSt_take (os:List Ob) (k:Nat) (hk:k < os.length):allSt (os.take (k+1))=allSt (os.take k) ++ os[k].stripes:=by
 have e:os.take (k+1)=os.take k ++ [os[k]]:=by rw [List.take_add_one,List.getElem?_eq_getElem hk];rfl
 rw [e]
 unfold allSt
 rw [List.flatMap_append]
 simp
def encN (x:Nat):Array Value:=#[.int .i64 (x:Int)]
theorem pre_take {os:List Ob} {k:Nat} (m:Nat) (hk:k < os.length):allSt (os.take k) ++ (os[k].stripes).take m <+: allSt os:=by
 have h1:allSt os=allSt (os.take k) ++ (os[k].stripes ++ allSt (os.drop (k+1))):=by
  have e:allSt (os.take k ++ os[k] :: os.drop (k+1))=allSt (os.take k) ++ (os[k].stripes ++ allSt (os.drop (k+1))):=by unfold allSt;rw [List.flatMap_append,List.flatMap_cons]
  rwa [← List.drop_eq_getElem_cons hk,List.take_append_drop] at e
 rw [h1]
 refine (List.prefix_append_right_inj _).2 ?_
 exact (List.take_prefix m _).trans (List.prefix_append _ _)
theorem catStripes1_pf (K:Nat→Prop) (n l b1:Nat) (v:Value) (os:List Ob) (J Jx:List Nat→World→Prop) (k7:∀ pre A B,J pre A→Below A.heap.size A B→J pre B)
 (Lx:List Nat) (hY:∀ pre x W,J pre W→pre ++ [x] <+: Lx→YieldAt Fence.wide (n - 1) Tryz.prog l (encN x) W fun e W'=>(e=.returned (.bool true)∧J (pre ++ [x]) W'∧KpS K W W')∨(e=.returned (.bool false)∧Jx (pre ++ [x]) W'))
 (pre0:List Nat) (k8:pre0 ++ allSt os <+: Lx) (W:World) (h1:W.cell? ⟨b1,0,none⟩=some v) (hC:Cat K W v os) (h0:J pre0 W) :
 CallsIn Fence.wide n Tryz.prog 79 #[.func (.yield l) #[] #[],.pointer (some ⟨b1,0,none⟩)] W fun e W'=>(∃ v,e=.returned v) ∧
  ((J (pre0 ++ allSt os) W')∨(∃ pre,pre <+: allSt os∧Jx (pre0 ++ pre) W')):=by
 obtain ⟨ao,c,rfl,k9,h3⟩:=id hC
 refine callsIn_of_wp Tryz.func79 rfl trivial ?_ rfl
 simp only [Tryz.ntmps79,List.size_toArray,List.length_cons,List.length_nil,Nat.reduceAdd,Nat.reduceSub,Array.replicate_succ,Array.replicate_zero,List.push_toArray,List.append_toArray,List.nil_append,List.cons_append]
 have HC:=hide2 hC h0
 clear hC h0 h3
 gi_wp2
 gi_loopw [9] (fun p wr=>∃ k:Nat,p=.int .i64 (k:Nat)∧k≤os.length∧J (pre0 ++ allSt (os.take k)) wr∧Cat K wr (.slice ao os.length c) os)
  (fun p _=>os.length - (intOf p).toNat)
 case atStart=>
  exact ⟨0,rfl,Nat.zero_le _,by simpa [allSt] using HC.out.2,HC.out.1⟩
 case round=>
  obtain ⟨k,rfl,hk,hJ,hc⟩:=hrel
  by_cases h7:k < os.length
  · obtain ⟨ao',c',e1,_,h3⟩:=id hc
    obtain ⟨b,off,e2,kg,kh,hr⟩:=h3 (fun e=>by rw [e] at h7;simp at h7)
    simp only [Value.slice.injEq] at e1
    obtain ⟨rfl,_,rfl⟩:=e1
    subst e2
    obtain ⟨sv,r1,r2,r3,r4⟩:=hr k h7
    obtain ⟨so,sc,rfl,ka,h8⟩:=id r4
    obtain ⟨st,hi⟩:∃ st,os[k].stripes=st:=⟨_,rfl⟩
    obtain ⟨NN,hN⟩:∃ NN,os.length=NN:=⟨_,rfl⟩
    obtain ⟨nm,hs⟩:∃ nm,os[k].name=nm:=⟨_,rfl⟩
    obtain ⟨sz,hx⟩:∃ sz,((os[k].size:Nat):Int)=sz:=⟨_,rfl⟩
    rw [hi] at r3 r4 ka h8
    rw [hs] at r1
    rw [hx] at r2
    have kb:(k:Int) < (NN:Int):=by omega
    have H:=hide5 hJ hc r4 hi hN
    clear hJ hc h3 hr r4 h8 hi hN hs hx
    gi_wp2
    obtain ⟨wx,hj⟩:∃ wx,wr.alloc (.cells #[.string nm,.int .i64 sz,.slice so st.length sc] 187)=wx:=⟨_,rfl⟩
    have hf:Below wr.heap.size wr wx:=by rw [← hj];exact (Below.refl _ wr).alloc (Nat.le_refl _) _
    rw [hj]
    clear hj
    have hz:=k7 _ _ _ H.out.1 hf
    have k0:=H.out.2.1.keep (KpS.of_below hf)
    have k5:=H.out.2.2.1.keep (KpS.of_below hf)
    gi_loopw [16] (fun p wy=>∃ m:Nat,p=.int .i64 (m:Nat)∧m≤st.length∧J (pre0 ++ (allSt (os.take k) ++ st.take m)) wy∧Cat K wy (.slice (some ⟨b,off,none⟩) os.length c) os∧Ints K wy (.slice so st.length sc) st)
     (fun p _=>st.length - (intOf p).toNat)
    case atStart=>
     exact ⟨0,rfl,Nat.zero_le _,by simpa using hz,k0,k5⟩
    case round=>
     clear hz k0 k5 hf
     obtain ⟨m,rfl,hm,h5,hg,hh⟩:=hrel
     by_cases h9:m < st.length
     · obtain ⟨so',sc',e1,_,h8⟩:=id hh
       obtain ⟨b2,off2,e2,ki,kc,ha⟩:=h8 (fun e=>by rw [e] at h9;simp at h9)
       simp only [Value.slice.injEq] at e1
       obtain ⟨rfl,_,rfl⟩:=e1
       subst e2
       have g1:=ha m h9
       obtain ⟨y,hy⟩:∃ y,st[m]=y:=⟨_,rfl⟩
       rw [hy] at g1
       have k6:(pre0 ++ (allSt (os.take k) ++ st.take m)) ++ [y] <+: Lx:=by
        have h1:=pre_take (os:=os) (m+1) h7
        rw [H.out.2.2.2.1,List.take_add_one,List.getElem?_eq_getElem h9,hy] at h1
        have h2:=((List.prefix_append_right_inj pre0).2 h1).trans k8
        simpa using h2
       obtain ⟨fn,tmps,assign,body,kd,hR⟩:=hY _ y _ h5 k6
       clear k6
       unfold encN at kd
       have HM:=hide5 h5 hg hh hR hy
       clear h5 hg hh hR h8 ha hy
       gi_wp2
       refine ⟨fun h=>(by cases h),HM.out.2.2.2.1.mono ?_⟩
       have h4:pre0 ++ (allSt (os.take k) ++ st.take m) ++ [y]=pre0 ++ (allSt (os.take k) ++ st.take (m+1)):=by
        have e:st.take (m+1)=st.take m ++ [y]:=by rw [List.take_add_one,List.getElem?_eq_getElem h9,HM.out.2.2.2.2];rfl
        rw [e];simp
       rintro e W3 (⟨rfl,hn,hq⟩ | ⟨rfl,h6⟩)
       · rw [h4] at hn
         have H3:=hide3 hn (HM.out.2.1.keep hq) (HM.out.2.2.1.keep hq)
         clear hn hq h4
         gi_wp2
         go_roundw
         case rel=>exact ⟨m+1,by go_num,by omega,H3.out.1,H3.out.2.1,H3.out.2.2⟩
         case measure=>simp only [intOf];omega
       · rw [h4] at h6
         have H3:=hide h6
         clear h6 h4
         gi_wp2
         refine bodyPost_ret (results_none rfl _ _ _) rfl ?_
         have hp:=pre_take (os:=os) (m+1) h7
         rw [H.out.2.2.2.1] at hp
         exact ⟨⟨_,rfl⟩,.inr ⟨_,hp,H3.out⟩⟩
     · have ke:m=st.length:=by omega
       subst ke
       rw [List.take_length] at h5
       have he:=allSt_take os k h7
       rw [H.out.2.2.2.1] at he
       rw [← he] at h5
       have HM:=hide2 h5 hg
       clear h5 hg hh he
       gi_wp2
       go_roundw
       case rel=>exact ⟨k+1,by go_num,by omega,HM.out.1,HM.out.2⟩
       case measure=>simp only [intOf];omega
  · have kf:k=os.length:=by omega
    subst kf
    rw [List.take_length] at hJ
    have HJ:=hide hJ
    clear hJ hc
    gi_wp2
    go_end0
    exact ⟨⟨_,rfl⟩,.inl HJ.out⟩
theorem pf_lt {α:Type} {pre l:List α} {x:α} (h:pre ++ [x] <+: l):pre.length < l.length:=by
 have:=h.length_le
 rw [List.length_append,List.length_singleton] at this
 omega
end
section
open Go.Shelf Go.Deep Gf
attribute [local go_sem] Oper.semAt_some
theorem yield_any {m m':Nat} {P:Program} {l:Nat} {args:Array Value} {R:Ending→World→Prop} (h:YieldAt Fence.wide m P l args w R):YieldAt Fence.wide m' P l args w R:=by
 obtain ⟨fn,tmps,assign,body,h1,h2⟩:=h
 exact ⟨fn,tmps,assign,body,h1,round_any h2⟩
theorem catStripes_any (ao:Option Addr) (m c:Nat) (w:World) :
 Calls Tryz.prog 60 #[.slice ao m c] w fun e w'=>e=.returned (.func (.func 79) #[] #[.pointer (some ⟨w.heap.size,0,none⟩)])∧w'=w.alloc (.cells #[.slice ao m c] 96):=by
 have h0:∀ (fn:Fn) (first cap:Array Value) (w:World),(Instr.makeFunc fn first cap).run Tryz.prog w=.ok (.func fn first cap) w:=fun _ _ _ _=>rfl
 go_enter Tryz.func60,Tryz.ntmps60
 go_wp2
 go_ret
 exact ⟨rfl,rfl⟩
theorem arcStripes_any (ar:Nat) (w:World) :
 Calls Tryz.prog 48 #[.pointer (some ⟨ar,0,none⟩)] w fun e w'=>e=.returned (.func (.func 59) #[] #[.pointer (some ⟨w.heap.size,0,none⟩)])∧w'=w.alloc (.cells #[.pointer (some ⟨ar,0,none⟩)] 52):=by
 have h0:∀ (fn:Fn) (first cap:Array Value) (w:World),(Instr.makeFunc fn first cap).run Tryz.prog w=.ok (.func fn first cap) w:=fun _ _ _ _=>rfl
 go_enter Tryz.func48,Tryz.ntmps48
 go_wp2
 go_ret
 exact ⟨rfl,rfl⟩
theorem arcStripes1_pf (K:Nat→Prop) (n l b1 ar:Nat) (v D L G t f nn:Nat) (pg ob:Value) (off:Bool) (P:List Nat) (os:List Ob) (hs:K b1) (hx:K ar) (J Jx:List Nat→World→Prop) (hg:∀ pre A B,J pre A→Below A.heap.size A B→J pre B)
 (hY:∀ pre x W,J pre W→pre ++ [x] <+: P ++ allSt os→YieldAt Fence.wide (n - 1) Tryz.prog l (encN x) W fun e W'=>(e=.returned (.bool true)∧J (pre ++ [x]) W'∧KpS K W W')∨(e=.returned (.bool false)∧Jx (pre ++ [x]) W'))
 (W:World) (h1:Boxed W b1 52 (.pointer (some ⟨ar,0,none⟩))) (hA:ArcAt W ar v D L G t f nn pg ob off) (hP:Ints K W pg P) (hC:Cat K W ob os) (h0:J [] W) :
 CallsIn Fence.wide n Tryz.prog 59 #[.func (.yield l) #[] #[],.pointer (some ⟨b1,0,none⟩)] W fun e W'=>(∃ v,e=.returned v) ∧
  ((∃ ys,ys=P ++ allSt os∧J ys W')∨(∃ pre,pre <+: P ++ allSt os∧Jx pre W')):=by
 obtain ⟨ao,c,rfl,hz,h3⟩:=id hP
 obtain ⟨c0,_,_,c7,c8⟩:=hA.cells
 have cb:=h1.cell
 refine callsIn_of_wp Tryz.func59 rfl trivial ?_ rfl
 simp only [Tryz.ntmps59,List.size_toArray,List.length_cons,List.length_nil,Nat.reduceAdd,Nat.reduceSub,Array.replicate_succ,Array.replicate_zero,List.push_toArray,List.append_toArray,List.nil_append,List.cons_append]
 have HC:=hide5 h1 hA hP hC h0
 clear h1 hA hP hC h0 h3
 gi_wp2
 gi_loopw [10] (fun p wr=>∃ k:Nat,p=.int .i64 (k:Nat)∧k≤P.length∧J (P.take k) wr∧KpS K W wr)
  (fun p _=>P.length - (intOf p).toNat)
 case atStart=>
  exact ⟨0,rfl,Nat.zero_le _,HC.out.2.2.2.2,KpS.refl _ _⟩
 case round=>
  clear c0 c7 c8 cb
  obtain ⟨k,rfl,hk,hJ,h5⟩:=hrel
  by_cases h8:k < P.length
  · obtain ⟨ao',c',e1,_,h3⟩:=HC.out.2.2.1.keep h5
    obtain ⟨b,bo,e2,k0,k7,hh⟩:=h3 (fun e=>by rw [e] at h8;simp at h8)
    simp only [Value.slice.injEq] at e1
    obtain ⟨rfl,_,rfl⟩:=e1
    subst e2
    have g1:=hh k h8
    obtain ⟨y,hy⟩:∃ y,P[k]=y:=⟨_,rfl⟩
    rw [hy] at g1
    obtain ⟨fn,tmps,assign,body,k5,hR⟩:=hY _ y _ hJ (by
     have h1:=(List.take_prefix (k+1) P).trans (List.prefix_append P (allSt os))
     rwa [List.take_add_one,List.getElem?_eq_getElem h8,hy] at h1)
    unfold encN at k5
    have HM:=hide4 hJ h5 hR hy
    clear hJ h5 hR h3 hh hy
    gi_wp2
    refine ⟨fun h=>(by cases h),HM.out.2.2.1.mono ?_⟩
    have h4:P.take k ++ [y]=P.take (k+1):=by rw [List.take_add_one,List.getElem?_eq_getElem h8,HM.out.2.2.2];rfl
    rintro e W3 (⟨rfl,hc,hi⟩ | ⟨rfl,h7⟩)
    · rw [h4] at hc
      have H3:=hide2 hc (HM.out.2.1.trans hi)
      clear hc hi h4
      gi_wp2
      go_roundw
      case rel=>exact ⟨k+1,by go_num,by omega,H3.out.1,H3.out.2⟩
      case measure=>simp only [intOf];omega
    · rw [h4] at h7
      have H3:=hide h7
      clear h7 h4
      gi_wp2
      refine bodyPost_ret (results_none rfl _ _ _) rfl ?_
      exact ⟨⟨_,rfl⟩,.inr ⟨_,(List.take_prefix (k+1) P).trans (List.prefix_append _ _),H3.out⟩⟩
  · have k6:k=P.length:=by omega
    subst k6
    rw [List.take_length] at hJ
    obtain ⟨h1,hA,hP,hC,h0⟩:=HC.out
    have hm:Boxed wr b1 52 (.pointer (some ⟨ar,0,none⟩)):=(h5.2 _ h1.lt hs).trans h1
    have hn:=hA.keep (h5.2 _ hA.lt hx)
    have he:=hC.keep h5
    obtain ⟨_,_,_,_,c8⟩:=hn.cells
    have cb:=hm.cell
    obtain ⟨oo,oc,rfl,k8,_⟩:=id he
    have HJ:=hide3 hJ h5 he
    clear hJ h5 h1 hA hP hC h0 hm hn he
    gi_wp2
    refine at_wide (catStripes_any oo os.length oc wr) ?_
    rintro e w2 ⟨rfl,rfl⟩
    have ha:Below wr.heap.size wr (wr.alloc (.cells #[.slice oo os.length oc] 96)):=(Below.refl _ wr).alloc (Nat.le_refl _) _
    have cc:(wr.alloc (.cells #[.slice oo os.length oc] 96)).cell? ⟨wr.heap.size,0,none⟩=some (.slice oo os.length oc):=(Boxed.new wr _ _).cell
    obtain ⟨w2,hf⟩:∃ w2,wr.alloc (.cells #[.slice oo os.length oc] 96)=w2:=⟨_,rfl⟩
    rw [hf] at ha cc
    have hq:=hg _ _ _ HJ.out.1 ha
    have hr:=HJ.out.2.2.keep (KpS.of_below ha)
    have h6:=catStripes1_pf K (n - 1) l wr.heap.size (.slice oo os.length oc) os J Jx hg (P ++ allSt os) (fun pre x W1 hj hp=>yield_any (hY pre x W1 hj hp)) P (List.prefix_refl _) w2 cc hr hq
    have H2:=hide h6
    clear ha cc hq hr h6
    rw [hf]
    clear hf
    gi_wp2
    refine ⟨trivial,fun h=>(by cases h),H2.out.mono ?_⟩
    rintro e W3 ⟨⟨x,rfl⟩,h9⟩
    have H3:=hide h9
    clear h9
    gi_wp2
    go_end0
    refine ⟨⟨_,rfl⟩,?_⟩
    rcases H3.out with h | ⟨pre,h1,h2⟩
    · exact .inl ⟨_,rfl,h⟩
    · exact .inr ⟨_,(List.prefix_append_right_inj _).2 h1,h2⟩
theorem arcStripes_stops (K:Nat→Prop) (n b1 ar v D L G t f nn:Nat) (pg ob:Value) (off:Bool) (P:List Nat) (os:List Ob) (h2:K b1) (h3:K ar) (w:World) (h1:Boxed w b1 52 (.pointer (some ⟨ar,0,none⟩))) (hA:ArcAt w ar v D L G t f nn pg ob off) (hP:Ints K w pg P) (hC:Cat K w ob os) :
 SeqStopsK Fence.wide n Tryz.prog 59 #[.pointer (some ⟨b1,0,none⟩)] encN (KpS K) (fun ys=>ys=P ++ allSt os) (fun pre=>pre <+: P ++ allSt os) (P ++ allSt os).length w:=fun l J Jx W hW hJ _ hY h0=>
 arcStripes1_pf K n l b1 ar v D L G t f nn pg ob off P os h2 h3 J Jx (fun pre A B h hb=>hJ pre A B none h ⟨hb.os,hb.tape,hb.output,hb.size,fun k hk _=>hb.block k hk⟩ (fun r e=>by cases e)) (fun pre x W h hp=>hY pre x W h (pf_lt hp)) W
  ((hW.block _ h1.lt).trans h1) (hA.keep (hW.block _ hA.lt)) (hP.keep (KpS.of_below hW)) (hC.keep (KpS.of_below hW)) h0
def Sn (l:List Nat):Type:={ x:Nat // x∈l }
def encSn {l:List Nat} (x:Sn l):Array Value:=encN x.1
theorem arcStripes_known (K:Nat→Prop) (n b1 ar v D L G t f nn:Nat) (pg ob:Value) (off:Bool) (P:List Nat) (os:List Ob) (h4:K b1) (h5:K ar) (w:World) (h1:Boxed w b1 52 (.pointer (some ⟨ar,0,none⟩))) (hA:ArcAt w ar v D L G t f nn pg ob off) (hP:Ints K w pg P) (hC:Cat K w ob os) :
 SeqStopsK Fence.wide n Tryz.prog 59 #[.pointer (some ⟨b1,0,none⟩)] (encSn (l:=P ++ allSt os)) (KpS K) (fun ys=>ys.map (·.1)=P ++ allSt os) (fun pre=>pre.map (·.1) <+: P ++ allSt os) (P ++ allSt os).length w:=fun l J Jx W hW hJ _ hY h0=>by
 refine (arcStripes1_pf K n l b1 ar v D L G t f nn pg ob off P os h4 h5 (fun pre X=>∃ ys:List (Sn (P ++ allSt os)),ys.map (·.1)=pre∧J ys X) (fun pre X=>∃ ys:List (Sn (P ++ allSt os)),ys.map (·.1)=pre∧Jx ys X)
  (fun pre A B ⟨ys,e,h⟩ hb=>⟨ys,e,hJ ys A B none h ⟨hb.os,hb.tape,hb.output,hb.size,fun k hk _=>hb.block k hk⟩ (fun r e=>by cases e)⟩) ?_ W
  ((hW.block _ h1.lt).trans h1) (hA.keep (hW.block _ hA.lt)) (hP.keep (KpS.of_below hW)) (hC.keep (KpS.of_below hW)) ⟨[],rfl,h0⟩).mono ?_
 · rintro pre x X ⟨ys,rfl,hj⟩ hp
   have hx:x∈P ++ allSt os:=hp.subset (by simp)
   refine (hY ys ⟨x,hx⟩ X hj (by have:=pf_lt hp;rwa [List.length_map] at this)).mono ?_
   rintro e X' (⟨h1,h2,h3⟩ | ⟨h1,h2⟩)
   · exact .inl ⟨h1,⟨ys ++ [⟨x,hx⟩],by rw [List.map_append];rfl,h2⟩,h3⟩
   · exact .inr ⟨h1,⟨ys ++ [⟨x,hx⟩],by rw [List.map_append];rfl,h2⟩⟩
 · rintro e X ⟨h1,⟨ys,rfl,zs,h2,h3⟩ | ⟨pre,hp,zs,rfl,h3⟩⟩
   · exact ⟨h1,.inl ⟨zs,h2,h3⟩⟩
   · exact ⟨h1,.inr ⟨zs,hp,h3⟩⟩
end
section
open Go.Deep
theorem drives_any (h:ArrAt w p A F):Calls Tryz.prog 41 #[.pointer (some ⟨p,0,none⟩)] w fun e w'=>e=.returned (.int .i64 A.n)∧w'=w:=by
 obtain ⟨c0,c1,_,_⟩:=h.p_cells
 go_enter Tryz.func41,Tryz.ntmps41
 go_wp2
 go_ret
 exact ⟨rfl,rfl⟩
theorem blocks_any (h:ArrAt w p A F) (hn:0 < A.n):Calls Tryz.prog 42 #[.pointer (some ⟨p,0,none⟩)] w fun e w'=>e=.returned (.int .i64 A.nb)∧w'=w:=by
 obtain ⟨c0,c1,_,_⟩:=h.p_cells
 obtain ⟨d0,d1,d2,d3⟩:=h.drvs 0 hn
 have e1:¬ (A.n:Int)=0:=by omega
 have e2:¬ A.n=0:=by omega
 have e3:(0:Int) < (A.n:Int):=by omega
 rw [Nat.zero_mul,Nat.zero_add] at d1
 go_enter Tryz.func42,Tryz.ntmps42
 go_wp2
 go_ret
 exact ⟨rfl,rfl⟩
theorem lose_any (h:ArrAt w p A F) (hf:A.fit) (d:Nat) (hd:d < A.n):Calls Tryz.prog 11 #[.pointer (some ⟨p,0,none⟩),.int .i64 d] w fun e w'=>e=.returned (.tuple #[])∧ArrAt w' p (A.setLost d true) F∧Outside (F.has p A.n) w w':=by
 obtain ⟨c0,c1,_,_⟩:=h.p_cells
 obtain ⟨d0,d1,d2,d3⟩:=h.drvs d hd
 have hn:=hf.n
 have fz:=h.unfrozen (d*4)
 have e1:¬ (d:Int) < 0:=by omega
 have e2:(0:Int)≤(d:Int):=by omega
 have e3:(d:Int) < (A.n:Int):=by omega
 go_enter Tryz.func11,Tryz.ntmps11
 go_wp2
 first | go_end0 | skip
 exact ⟨rfl,h.setLost d true,Outside.setCell _ _ _ (.inr (.inl rfl))⟩
end
section
open Go.Deep
theorem pieces_any (n m:Nat) (hn:n≤1000000000) (hm:1≤m∧m≤1000000) (w:World):Calls Tryz.prog 101 #[.int .i64 n,.int .i64 m] w fun e w'=>e=.returned (.int .i64 (((n+m - 1) / m:Nat):Int))∧w'=w:=by
 obtain ⟨m1,m2⟩:=hm
 have e1:(((n+m - 1) / m:Nat):Int)=((n:Int)+m - 1) / (m:Int):=by rw [Int.natCast_ediv,show ((n+m - 1:Nat):Int)=(n:Int)+m - 1 by omega]
 have e2:Int.tdiv ((n:Int)+m - 1) (m:Int)=((n:Int)+m - 1) / (m:Int):=Int.tdiv_eq_ediv_of_nonneg (by omega)
 have h0:¬ (m:Int)=0:=by omega
 have e3:wrap64 (((n:Int)+m - 1) / (m:Int))=((n:Int)+m - 1) / (m:Int):=by rw [← e1];exact wrap64_nat (Nat.le_trans (Nat.div_le_self _ _) (by omega))
 rw [e1]
 go_enter Tryz.func101,Tryz.ntmps101
 go_wp2
 go_ret
 exact ⟨congrArg (fun x=>Ending.returned (.int .i64 x)) e3,rfl⟩
def pgs (D m:Nat):Nat:=max 1 ((m+(D*44 - 4) - 1) / (D*44 - 4))
theorem pagesOf_any {a D' L' G' t f n:Nat} {pg ob:Value} {off:Bool} (ha:ArcAt w a v D' L' G' t f n pg ob off) (h:VolAt w v p D L G ps ho) (h4:1≤D) (hD:D≤1000) (m:Nat) (hm:m≤1000000000):Calls Tryz.prog 77 #[.pointer (some ⟨a,0,none⟩),.int .i64 m] w fun e w'=>e=.returned (.int .i64 (pgs D m:Nat))∧w'=w:=by
 have h0:=pieces_any m (D*44 - 4) hm ⟨by omega,by omega⟩ w
 obtain ⟨q,hq⟩:∃ q,(m+(D*44 - 4) - 1) / (D*44 - 4)=q:=⟨_,rfl⟩
 rw [hq] at h0
 have h2:pgs D m=max 1 q:=by unfold pgs;rw [hq]
 rw [h2]
 have h5:∀ ats ty w,(Builtin.max_ ats ty #[.int .i64 1,.int .i64 (q:Nat)]).run Tryz.prog w=.ok (.int .i64 ((max 1 q:Nat):Int)) w:=fun ats ty w=>by
  rw [run_max_int]
  by_cases h1:(q:Int) > 1
  · rw [if_pos h1,Nat.max_eq_right (by omega)]
  · rw [if_neg h1,Nat.max_eq_left (by omega)];rfl
 have h3:=pageSize_any ha h h4 hD
 have H:=hide2 h0 h3
 clear h0 h3 h2 hq
 go_enter Tryz.func77,Tryz.ntmps77
 go_wp2_with fail
 refine H.out.2.mono ?_
 rintro e w' ⟨rfl,rfl⟩
 generalize ((D*44 - 4:Nat):Int)=pz at *
 go_wp2_with fail
 refine H.out.1.mono ?_
 rintro e w' ⟨rfl,rfl⟩
 go_wp2
 go_ret
 exact ⟨rfl,rfl⟩
theorem volBlocks_any (hV:VolAt w v p D L G ps ho) (h:ArrAt w p A F) (hf:A.fit) (hn:0 < A.n):Calls Tryz.prog 117 #[.pointer (some ⟨v,0,none⟩)] w fun e w'=>e=.returned (.int .i64 A.nb)∧w'=w:=by
 obtain ⟨c0,_⟩:=hV.cells
 have hb:=hf.nb
 have h0:=blocks_any h hn
 obtain ⟨nb,h1⟩:∃ nb,A.nb=nb:=⟨_,rfl⟩
 rw [h1] at h0 hb ⊢
 clear h hf hn h1
 have h2:¬ (2147483647:Int) < (nb:Int):=by omega
 go_enter Tryz.func117,Tryz.ntmps117
 go_wp2_with fail
 refine h0.mono ?_
 rintro e w' ⟨rfl,rfl⟩
 go_wp2
 go_ret
 exact ⟨rfl,rfl⟩
end
end Go.Proofs.YthcgahldacpolaaGreatDoor
