import Derived.Test.YthcgahldacpolaaGreatDoorM24
import Derived.OwnWalk
import Derived.Laws.BytesString
set_option maxRecDepth 100000
set_option maxHeartbeats 8000000
namespace Go.Proofs.YthcgahldacpolaaGreatDoor
open Go.RowKit Go.Deep
variable {a:Act} {ops:Array Oper} {off:Bool} {Q:Exit→Act→World→Prop} {F:Foot} {l:List Nat} {rest:List Oper} {ar v D L G t f n D' L' G' t' f' n' p ps ho g N:Nat} {o:Oper} {pg ob:Value} {w:World}
section
open Go.Shelf Gf
theorem rt_load (hg:o.guard=none) (x:Operand) (ho:o.op=.load 93 x) {b D L G t f n:Nat} {ra:Array Value} (h0:ra=rootA D L G t f n)
 (hx:a.eval x=.pointer (some ⟨b,0,none⟩)) (hb:w.heap[b]?=some (.cells (rootA D L G t f n) 93 (0,0))) (h:wpList Tryz.prog ops Q rest (a.put o.dst (.agg ra)) w):wpList Tryz.prog ops Q (o :: rest) a w:=by
 refine wpList_plain hg fun K hK=>?_
 subst h0
 unfold Oper.wp
 simp [execOp,ho,hx,root_loadM hb,Result.andThen]
 exact hK _ _ h
theorem arc_root (h:ArcAt w ar v D' L' G' t' f' n' pg ob off):ArcAt (w.setCells ar 1 (rootA D L G t f n).toList) ar v D L G t f n pg ob off:=by
 have h':w.heap[ar]?=some (.cells (arcA v D' L' G' t' f' n' pg ob off) 98 (0,0)):=h
 have:=heap_setCell_at (j:=6) (heap_setCell_at (j:=5) (heap_setCell_at (j:=4) (heap_setCell_at (j:=3) (heap_setCell_at (j:=2) (heap_setCell_at (j:=1) h' (.int .i64 (D:Int))) (.int .i64 (L:Int))) (.int .i64 (G:Int))) (.int .u64 (t:Int))) (.int .i64 (f:Int))) (.int .i64 (n:Int))
 exact this
theorem ArcAt.there (h:ArcAt w ar v D' L' G' t' f' n' pg ob off):w.there ar 1 6:=by
 have h':w.heap[ar]?=some (.cells (arcA v D' L' G' t' f' n' pg ob off) 98 (0,0)):=h
 intro j hj
 match j,hj with
 | 0,_ | 1,_ | 2,_ | 3,_ | 4,_ | 5,_=>simp [World.cell?,World.frozen?,h',arcA]
 | n+6,hn=>exact absurd hn (by omega)
theorem ArcAt.late (h:ArcAt w ar v D' L' G' t' f' n' pg ob off) (pg' ob':Value):ArcAt ((w.setCell ⟨ar,7,none⟩ pg').setCell ⟨ar,8,none⟩ ob') ar v D' L' G' t' f' n' pg' ob' off:=by
 have h':w.heap[ar]?=some (.cells (arcA v D' L' G' t' f' n' pg ob off) 98 (0,0)):=h
 exact heap_setCell_at (j:=8) (heap_setCell_at (j:=7) h' pg') ob'
theorem ArcAt.tail (h:ArcAt w ar v D' L' G' t' f' n' pg ob off):w.cell? ⟨ar,7,none⟩=some pg∧w.frozen? ⟨ar,7,none⟩=false∧w.cell? ⟨ar,8,none⟩=some ob∧w.frozen? ⟨ar,8,none⟩=false:=by
 have h':w.heap[ar]?=some (.cells (arcA v D' L' G' t' f' n' pg ob off) 98 (0,0)):=h
 simp [World.cell?,World.frozen?,h',arcA]
theorem list17 {vs:List Value} (h:vs.length=17):∃ x0 x1 x2 x3 x4 x5 x6 x7 x8 x9 xa xb xc xd xe xf xg,vs=[x0,x1,x2,x3,x4,x5,x6,x7,x8,x9,xa,xb,xc,xd,xe,xf,xg]:=by
 match vs,h with
 | [x0,x1,x2,x3,x4,x5,x6,x7,x8,x9,xa,xb,xc,xd,xe,xf,xg],_=>exact ⟨_,_,_,_,_,_,_,_,_,_,_,_,_,_,_,_,_,rfl⟩
def PackOk (w:World) (vo:Value) (l:List Nat):Prop:=∀ W,Below w.heap.size w W→Calls Tryz.prog 103 #[vo] W fun e w'=>∃ g cap,e=.returned (.slice (some ⟨g,0,none⟩) l.length cap)∧w'.ownsRow W.heap.size 5 1 (.slice (some ⟨g,0,none⟩) l.length cap) l.length (bts l)∧Below W.heap.size W w'
def CmPost (w:World) (ar v p D L G t:Nat) (A:Arr) (F:Foot) (P l:List Nat) (vp vo:Value) (off:Bool) (e:Ending) (w':World):Prop:=e=.returned .nilIface∧ArrAt w' p ((A.pagesTo D L G P l P.length).putAt (List.range A.n) 0 (fun _=>(Rec.root D L G (t+1) (P.getD 0 0) l.length).blk)) F∧ArcAt w' ar v D L G (t+1) (P.getD 0 0) l.length vp vo off∧Outside (fun k=>k=ar∨F.has p A.n k) w w'
theorem commit_any {nn:Nat} {A:Arr} (ha:ArcAt w ar v D' L' G' t f nn pg ob off) (hV:Vol w v p D L G ps ho A F) (hF:Free F p A.n v) (hg:¬ F.has p A.n ar) (hf:A.fit) (hn:A.n=D+L+G) (hr:rightB D L G=true) (kv:1≤D) (hD:D≤12) (hL:1≤L) (kg:L≤4) (hG:G≤4) (k8:D % L=0) (kh:D+L+G≤16)
 (hw:A.wait < 0) (h5:∀ i,A.lost i=false) (ht:t≤1000000000) (oo:Option Addr) (on oc:Nat) (l:List Nat) (kx:∀ x∈l,x < 256) (ky:l.length≤1000000) (kz:PackOk w (.slice oo on oc) l)
 (pb po pc:Nat) (P:List Nat) (hP:Ints (fun k=>¬ F.has p A.n k) w (.slice (some ⟨pb,po,none⟩) P.length pc) P) (ki:P≠[]) (kj:∀ x∈P,x < A.nb) (q0:∀ k,k < P.length→k*(D*44 - 4)≤l.length) :
 Calls Tryz.prog 78 #[.pointer (some ⟨ar,0,none⟩),.slice oo on oc,.slice (some ⟨pb,po,none⟩) P.length pc] w fun e w'=>CmPost w ar v p D L G t A F P l (.slice (some ⟨pb,po,none⟩) P.length pc) (.slice oo on oc) off e w':=by
 have h6:0 < P.length:=List.length_pos_iff.2 ki
 obtain ⟨f0,k0⟩:∃ f0,P.getD 0 0=f0:=⟨_,rfl⟩
 have h8:P[0]=f0:=by rw [← k0];simp [h6]
 have q4:=hf.nb
 have q1:f0 < A.nb:=by rw [← h8];exact kj _ (List.getElem_mem _)
 have q2:(Rec.root D L G (t+1) f0 l.length).ok:=⟨by omega,by omega,by omega,by omega,by omega,by omega⟩
 unfold CmPost
 rw [k0]
 have HA:=hide2 k0 h8
 have HP:=hide hP
 clear k0 h8 hP
 go_enter Tryz.func78,Tryz.ntmps78
 go_wp2_with fail
 refine (kz w (Below.refl _ w)).mono ?_
 rintro e w1 ⟨g,cap,rfl,hj,h7⟩
 have h9:=ha.keep (h7.block _ ha.lt)
 have hh:=hV.below h7 (Nat.le_refl _)
 have hc:=HP.out.keep (KpS.of_below h7)
 have kk:=writePages_any h9 hh hF hg hf hn hr kv hD hL kg hG k8 kh hw h5 g cap w.heap.size l hj kx ky (fun k hk=>hV.arr.has_lt hk) _ P hc kj q0
 have H1:=hide5 h7 kk hc h9 hh
 clear h7 kk hc hj h9 hh
 go_wp2_with fail
 refine H1.out.2.1.mono ?_
 rintro e w2 ⟨rfl,km,hm⟩
 obtain ⟨h7,_,hp,h9,hh⟩:=H1.out
 have hi:=h9.keep (hm.block _ h9.lt hg)
 have q3:=pagesTo_n A D L G P l P.length
 have hq:=hh.turn hF hm km
 have kn:=hp.keep (KpS.of_outside hm)
 obtain ⟨b',bo',c',e1,ko⟩:=ints_at kn ki
 simp only [Value.slice.injEq,Option.some.injEq,Addr.mk.injEq] at e1
 obtain ⟨⟨rfl,rfl,_⟩,_,rfl⟩:=e1
 have k9:=ko 0 h6
 rw [Nat.add_zero,HA.out.2] at k9
 have h1:Outside (F.has p A.n) w w2:=(Outside.of_all h7 _).trans hm
 have H2:=hide4 hi hq h1 k9
 clear h7 hp h9 hh km hm hi hq kn ko k9 h1
 go_wp2_with fail
 refine commit_region (f:=f0) (by kernel_rfl) H2.out.2.1.vol H2.out.1 rfl rfl ht (by omega) H2.out.2.2.2 rfl rfl rfl rfl ?_
 intro w3 vs rb hs ka h0 k5
 obtain ⟨x0,x1,x2,x3,x4,x5,x6,x7,x8,x9,xa,xb,xc,xd,xe,xf,xg,rfl⟩:=list17 hs
 obtain ⟨hi,hq,h1,kb⟩:=H2.out
 clear kb
 have he:=hi.keep (k5.block _ hi.lt)
 have hx:=hq.below k5 (Nat.le_refl _)
 have h2:Outside (F.has p A.n) w w3:=h1.trans (Outside.of_all k5 _)
 have h3:¬ F.has p A.n rb:=fun q=>by have:=hV.arr.has_lt q;have:=h1.size;omega
 have H3:=hide6 he hx h2 h0 h3 ka
 clear hi hq h1 he hx h2 h0 h3 ka k5 hs
 rename_i hK
 refine hK _ _ ?_
 clear hK
 simp only [Act.putFrom,Act.put,List.setIfInBounds_toArray,List.set_cons_succ,List.set_cons_zero]
 go_wp2_with fail
 obtain ⟨he,hx,h2,h0,h3,ka⟩:=H3.out
 obtain ⟨pn1,pn2,pn3,pn4⟩:=q3
 refine commitWrite_region (by kernel_rfl) hx (by rw [pn1];exact hF) (by rw [pn1];exact hg) he rfl (pagesTo_fit hf hD hG hn P l _) (by rw [pn1];exact hn) hD kg hG kh (by rw [pn2];omega) (by rw [pn3];exact hw) (fun i=>by rw [pn4];exact h5 i) q2 h0 (by rw [pn1];exact h3) rfl rfl rfl ?_
 rw [pn1]
 intro w4 vs hs kp k6
 obtain ⟨y0,y1,y2,y3,y4,y5,y6,y7,y8,y9,ya,yb,rfl⟩:=list12 hs
 have kc:=he.keep (k6.block _ he.lt hg)
 have h4:=(k6.block rb (Array.getElem?_eq_some_iff.1 h0).1 h3).trans h0
 have hy:Outside (fun k=>k=ar∨F.has p A.n k) w w4:=(h2.trans k6).mono fun _ _ q=>.inr q
 have kr:=kc.there
 have k7:=arc_root (D:=D) (L:=L) (G:=G) (t:=t+1) (f:=f0) (n:=l.length) kc
 have kd:=hy.trans (Outside.setCells (S:=fun k=>k=ar∨F.has p A.n k) _ ar 1 (rootA D L G (t+1) f0 l.length).toList (.inl rfl))
 have ke:=kp.outside (Outside.setCells (S:=fun k=>k=ar) w4 ar 1 (rootA D L G (t+1) f0 l.length).toList rfl) (fun k hk e=>hg (by have hz:F.has p (A.pagesTo D L G P l P.length).n k:=hk;rw [pn1] at hz;exact e ▸ hz))
 obtain ⟨w8,kf⟩:∃ w8,w4.setCells ar 1 (rootA D L G (t+1) f0 l.length).toList=w8:=⟨_,rfl⟩
 rw [kf] at k7 kd ke
 obtain ⟨c7,f7,c8,f8⟩:=k7.tail
 have H:=hide6 ke kd k7 kr h4 kf
 clear kp k6 kc hy kr k7 kd ke kf h4 he hx h2 h0 hs
 rename_i hK
 refine hK _ _ ?_
 clear hK
 simp only [Act.putFrom,Act.put,List.setIfInBounds_toArray,List.set_cons_succ,List.set_cons_zero]
 go_wp2_with (first | (refine rt_load rfl (.tmp 9) rfl rfl (by rfl) (by exact H.out.2.2.2.2.1) ?_) | (refine wpList_store_mid rfl 93 (.tmp 55) (.tmp 51) rfl ar 1 (rootA D L G (t+1) f0 l.length) (by rfl) (by rfl) (by exact H.out.2.2.2.1) (rootA_info _ _ _ _ _ _) (rootA_one _ _ _ _ _ _) ?_;rw [H.out.2.2.2.2.2]))
 go_ret
 refine ⟨rfl,?_,H.out.2.2.1.late _ _,(H.out.2.1.trans (Outside.setCell _ _ _ (.inl rfl))).trans (Outside.setCell _ _ _ (.inl rfl))⟩
 exact H.out.1.keep fun k hk=>by
  have hz:F.has p (A.pagesTo D L G P l P.length).n k:=hk
  rw [pn1] at hz
  have ks:k≠ar:=fun e=>hg (e ▸ hz)
  exact (blk_setCell_other _ _ _ _ ks).trans (blk_setCell_other _ _ _ _ ks)
end
section
open Go.Shelf Gf
noncomputable def RBg:Array Oper:=((Tryz.f58.body.bind (rgf · 1))).getD #[]
def shBg:List (Op×Option Nat×List Nat):=[(Op.move (.tmp 0),some 5,[]),
 (Op.nilCheck (.tmp 5),some 6,[0]),
 (Op.fieldAddr 98 (.tmp 6) 0,some 7,[1]),
 (Op.load 91 (.tmp 7),some 8,[2]),
 (Op.build 137 #[],some 9,[]),
 (Op.makeInterface 137 (.tmp 9),some 10,[4]),
 (Op.move (.tmp 0),some 11,[]),
 (Op.nilCheck (.tmp 11),some 12,[6]),
 (Op.fieldAddr 98 (.tmp 12) 0,some 13,[7]),
 (Op.load 91 (.tmp 13),some 14,[8]),
 (Op.call { callee:=Callee.value (Operand.func 63),args:=#[.tmp 14],argTypes:=#[91] },some 15,[9]),
 (Op.call { callee:=Callee.value (Operand.func 69),args:=#[.tmp 8,Operand.const (Value.int IntKind.i64 1),.tmp 10,.tmp 15],argTypes:=#[91,3,164,101] },some 16,[3,5,10,10])]
theorem RBg_shape:RegShape RBg 5 17 shBg:=regShape (by kernel_rfl) (by kernel_rfl)
def vsBg (ar v S:Nat):List Value:=[.pointer (some ⟨ar,0,none⟩),.pointer (some ⟨ar,0,none⟩),.pointer (some ⟨ar,0,none⟩),.pointer (some ⟨v,0,none⟩),.agg #[],recV .filled,.pointer (some ⟨ar,0,none⟩),.pointer (some ⟨ar,0,none⟩),.pointer (some ⟨ar,0,none⟩),.pointer (some ⟨v,0,none⟩),.int .u64 S,.int .u64 0]
def arBg (A:Arr) (r:Rec) (D:Nat→Bool):Arr:=if D 11=true then A.putAt (List.range A.n) 1 (fun _=>r.blk) else A
def BBg (w0:World) (p:Nat) (A:Arr) (F:Foot) (r:Rec) (Dn:Nat→Bool) (w:World):Prop:=ArrAt w p (arBg A r Dn) F∧Outside (F.has p A.n) w0 w
theorem BBg_upd {w0:World} {A:Arr} {r:Rec} {Dn:Nat→Bool} {w':World} (h:BBg w0 p A F r Dn w) (i:Nat) (hi:i≠11) (hb:Below w.heap.size w w'):BBg w0 p A F r (upd Dn i) w':=by
 refine ⟨?_,h.2.trans (Outside.of_all hb _)⟩
 have e:arBg A r (upd Dn i)=arBg A r Dn:=by unfold arBg upd;rw [if_neg (fun e:11=i=>hi e.symm)]
 rw [e];exact h.1.below hb (Nat.le_refl _)
theorem beginWrite_region {A:Arr} {cs:Array Value} (h7:RBg=ops) (hV:Vol w v p D L G ps ho A F) (hF:Free F p A.n v) (h8:¬ F.has p A.n ar) (hc:w.heap[ar]?=some (.cells cs 98 (0,0))) (h0:cs[0]?=some (.pointer (some ⟨v,0,none⟩)))
 (hf:A.fit) (hn:A.n=D+L+G) (hD:D≤12) (hj:L≤4) (hG:G≤4) (h9:D+L+G≤16) (hb:1 < A.nb) (hw:A.wait < 0) (hl:∀ i,A.lost i=false)
 (hz:a.tmps.size=30) (e0:a.eval (.tmp 0)=.pointer (some ⟨ar,0,none⟩))
 (hQ:∀ (w':World) (vs:List Value),vs.length=12→ArrAt w' p (A.putAt (List.range A.n) 1 (fun _=>Rec.filled.blk)) F→Outside (F.has p A.n) w w'→Q .normal (Act.putFrom a 5 vs) w'):(Code.region 1 ops true).wp Tryz.prog Q a w:=by
 subst h7
 obtain ⟨S,hS⟩:∃ S,2^(D+L+G) - 1=S:=⟨_,rfl⟩
 have he:mems S=List.range A.n:=by rw [← hS,hn];exact mems_all h9
 have hm:S < 65536:=by
  have:2^(D+L+G)≤2^16:=Nat.pow_le_pow_right (by decide) h9
  omega
 have ha:ar < w.heap.size:=(Array.getElem?_eq_some_iff.1 hc).1
 have h6:∀ w',Outside (F.has p A.n) w w'→w'.cell? ⟨ar,0,none⟩=some (.pointer (some ⟨v,0,none⟩)):=fun w' hO=>by
  have:=(hO.block ar ha h8).trans hc
  simp [World.cell?,this,h0]
 refine region_facts (by kernel_rfl) RBg_shape a w (by omega) (fun i u _=>u=(vsBg ar v S).getD i undef) (BBg w p A F .filled) ⟨hV.arr.keep fun _ _=>rfl,Outside.drew w⟩ ?_ ?_
 · intro i hi
   match i,hi with
   | 0,_=>exact fun o a' w' Dn hg ho h1 hk h4 h5 h2 hB h3=>op_val (run_op_move ho ((hk.slot 0 (by omega)).trans e0) w') h1 ⟨BBg_upd hB _ (by decide) (Below.refl _ _),rfl,kq⟩
   | 1,_=>
    intro o a' w' Dn hg ho h1 hk h4 h5 h2 hB h3
    have u0:a'.eval (.tmp 5)=.pointer (some ⟨ar,0,none⟩):=h3 0 (h2 0 (by decide))
    exact op_val (run_op_nil ho u0 w') h1 ⟨BBg_upd hB _ (by decide) (Below.refl _ _),rfl,kq⟩
   | 2,_=>
    intro o a' w' Dn hg ho h1 hk h4 h5 h2 hB h3
    have u0:a'.eval (.tmp 6)=.pointer (some ⟨ar,0,none⟩):=h3 1 (h2 1 (by decide))
    exact op_val (v:=.pointer (some ⟨ar,0,none⟩)) (by simp only [execOp,show o.op=Op.fieldAddr 98 (.tmp 6) 0 from ho,u0];go_simp) h1 ⟨BBg_upd hB _ (by decide) (Below.refl _ _),rfl,kq⟩
   | 3,_=>
    intro o a' w' Dn hg ho h1 hk h4 h5 h2 hB h3
    have u0:a'.eval (.tmp 7)=.pointer (some ⟨ar,0,none⟩):=h3 2 (h2 2 (by decide))
    have c:=h6 w' hB.2
    exact op_val (v:=.pointer (some ⟨v,0,none⟩)) (by simp only [execOp,show o.op=Op.load 91 (.tmp 7) from ho,u0];go_simp) h1 ⟨BBg_upd hB _ (by decide) (Below.refl _ _),rfl,kq⟩
   | 4,_=>
    intro o a' w' Dn hg ho h1 hk h4 h5 h2 hB h3
    exact op_val (v:=.agg #[]) (by simp only [execOp,show o.op=Op.build 137 #[] from ho];go_simp) h1 ⟨BBg_upd hB _ (by decide) (Below.refl _ _),rfl,kq⟩
   | 5,_=>
    intro o a' w' Dn hg ho h1 hk h4 h5 h2 hB h3
    have u0:a'.eval (.tmp 9)=.agg #[]:=h3 4 (h2 4 (by decide))
    exact op_val (v:=recV .filled) (by simp only [execOp,show o.op=Op.makeInterface 137 (.tmp 9) from ho,u0,recV];go_simp) h1 ⟨BBg_upd hB _ (by decide) (Below.refl _ _),rfl,kq⟩
   | 6,_=>exact fun o a' w' Dn hg ho h1 hk h4 h5 h2 hB h3=>op_val (run_op_move ho ((hk.slot 0 (by omega)).trans e0) w') h1 ⟨BBg_upd hB _ (by decide) (Below.refl _ _),rfl,kq⟩
   | 7,_=>
    intro o a' w' Dn hg ho h1 hk h4 h5 h2 hB h3
    have u0:a'.eval (.tmp 11)=.pointer (some ⟨ar,0,none⟩):=h3 6 (h2 6 (by decide))
    exact op_val (run_op_nil ho u0 w') h1 ⟨BBg_upd hB _ (by decide) (Below.refl _ _),rfl,kq⟩
   | 8,_=>
    intro o a' w' Dn hg ho h1 hk h4 h5 h2 hB h3
    have u0:a'.eval (.tmp 12)=.pointer (some ⟨ar,0,none⟩):=h3 7 (h2 7 (by decide))
    exact op_val (v:=.pointer (some ⟨ar,0,none⟩)) (by simp only [execOp,show o.op=Op.fieldAddr 98 (.tmp 12) 0 from ho,u0];go_simp) h1 ⟨BBg_upd hB _ (by decide) (Below.refl _ _),rfl,kq⟩
   | 9,_=>
    intro o a' w' Dn hg ho h1 hk h4 h5 h2 hB h3
    have u0:a'.eval (.tmp 13)=.pointer (some ⟨ar,0,none⟩):=h3 8 (h2 8 (by decide))
    have c:=h6 w' hB.2
    exact op_val (v:=.pointer (some ⟨v,0,none⟩)) (by simp only [execOp,show o.op=Op.load 91 (.tmp 13) from ho,u0];go_simp) h1 ⟨BBg_upd hB _ (by decide) (Below.refl _ _),rfl,kq⟩
   | 10,_=>
    intro o a' w' Dn hg ho h1 hk h4 h5 h2 hB h3
    have u0:a'.eval (.tmp 14)=.pointer (some ⟨v,0,none⟩):=h3 9 (h2 9 (by decide))
    refine op_call (f:=63) (args:=#[.pointer (some ⟨v,0,none⟩)]) (w1:=w') (by simp only [execOp,show o.op=Op.call { callee:=Callee.value (Operand.func 63),args:=#[.tmp 14],argTypes:=#[91] } from ho];go_simp;simpa [Act.eval] using u0) h1 (volAll_any (hV.vol.keep (hB.2.block _ hV.vol.lt hF.v)) hD hj hG h9) ?_
    rintro e w'' ⟨rfl,hp⟩
    rw [hS]
    exact ⟨_,rfl,BBg_upd hB 10 (by decide) hp,rfl,kq⟩
   | 11,_=>
    intro o a' w' Dn k0 ho h1 hk h4 h5 h2 hB h3
    have u0:a'.eval (.tmp 8)=.pointer (some ⟨v,0,none⟩):=h3 3 (h2 3 (by decide))
    have u1:a'.eval (.tmp 10)=recV .filled:=h3 5 (h2 5 (by decide))
    have u2:a'.eval (.tmp 15)=.int .u64 S:=h3 10 (h2 10 (by decide))
    have hA:ArrAt w' p A F:=by have:=hB.1;unfold arBg at this;rw [if_neg (by rw [h4];decide)] at this;exact this
    have hq:=hV.turn hF hB.2 hA
    have hh:=writeCopies_ok hq hF hf 1 S hb hm (fun i hi=>by rw [he] at hi;simpa using hi) hw (fun i _=>hl i) .filled trivial makes_filled
    rw [he] at hh
    refine op_call (f:=69) (args:=#[.pointer (some ⟨v,0,none⟩),.int .i64 (1:Nat),recV .filled,.int .u64 S]) (w1:=w') (by simp only [execOp,show o.op=Op.call { callee:=Callee.value (Operand.func 69),args:=#[.tmp 8,Operand.const (Value.int IntKind.i64 1),.tmp 10,.tmp 15],argTypes:=#[91,3,164,101] } from ho];go_simp;exact ⟨by simpa [Act.eval] using u0,by simpa [Act.eval] using u1,by simpa [Act.eval] using u2⟩) h1 hh ?_
    rintro e w'' ⟨rfl,hr,hs⟩
    refine ⟨_,rfl,⟨?_,hB.2.trans hs⟩,rfl,kq⟩
    have e:arBg A .filled (upd Dn 11)=A.putAt (List.range A.n) 1 (fun _=>Rec.filled.blk):=by unfold arBg upd;rw [if_pos (by rw [if_pos rfl])]
    rw [e];exact hr
   | n+12,hn=>exact absurd hn (by show ¬ n+12 < 12;omega)
 · rintro a' w' hx ⟨Dn,hy,hB⟩ h3
   have e:arBg A .filled Dn=A.putAt (List.range A.n) 1 (fun _=>Rec.filled.blk):=by unfold arBg;rw [if_pos (hy 11 (by decide))]
   have hA:=hB.1
   rw [e] at hA
   have e:a'=Act.putFrom a 5 ((List.range 12).map fun i=>a'.eval (.tmp (5+i))):=hx.out _ (by rw [List.length_map,List.length_range]) (by omega) (fun i hi=>by
    rw [List.length_map,List.length_range] at hi
    rw [List.getD_eq_getElem?_getD,List.getElem?_map,List.getElem?_range hi];rfl)
   rw [e]
   exact hQ w' _ (by rw [List.length_map,List.length_range]) hA hB.2
theorem packOk_nil (w:World):PackOk w (.slice none 0 0) []:=by
 intro W _
 go_enter Tryz.func103,Tryz.ntmps103
 go_wp2_with fail
 refine (length_nil W).mono ?_
 rintro e w' ⟨rfl,rfl⟩
 go_wp2_with (at_make;refine wpList_mk _ rfl (.const (.int .i64 0)) (.tmp 10) rfl _ 0 rfl rfl rfl (by omega) ?_;intro w2 hB h0 h1)
 have H:=hide2 hB h0
 clear hB h0
 refine wp_loop_rounds 1 ?_
 rw [rounds_succ]
 go_wp2
 go_ret
 obtain ⟨hB,h0⟩:=H.out
 exact ⟨_,0,rfl,⟨rfl,.inr ⟨_,0,_,rfl,Nat.le_refl _,hB.heapB,Nat.le_refl _,by unfold maxLen;omega,rfl,rfl⟩⟩,h0⟩
theorem Ints.weaken {K K':Nat→Prop} {v:Value} (h:Ints K w v l) (hk:∀ k,K k→K' k):Ints K' w v l:=by
 obtain ⟨ao,c,h1,h2,h3⟩:=h
 refine ⟨ao,c,h1,h2,fun hl=>?_⟩
 obtain ⟨b,off,q1,q2,q3⟩:=h3 hl
 exact ⟨b,off,q1,hk b q2,q3⟩
theorem frees_new {nb:Nat} (h:3≤nb):(frees (tk nb ([] ++ allSt [])).1 nb).take 1=[2]∧1≤(frees (tk nb ([] ++ allSt [])).1 nb).length:=by
 have e:(tk nb ([] ++ allSt [])).1=fun _=>false:=rfl
 rw [e]
 have h3:frees (fun _=>false) 3=[2]:=by simp [frees,List.range_succ]
 obtain ⟨r,hr⟩:=frees_mono (fun _=>false) h
 rw [h3] at hr
 rw [← hr]
 exact ⟨rfl,by simp⟩
def newArc (A:Arr) (D L G:Nat):Arr:=((A.putAt (List.range A.n) 1 (fun _=>Rec.filled.blk)).pagesTo D L G [2] [] 1).putAt (List.range A.n) 0 (fun _=>(Rec.root D L G 1 2 0).blk)
theorem own_ints {base:Nat} {u:Value} (h:w.ownsRow base 3 1 u n (ivs l)) (hl:l≠[]) (h1:l.length≤1000000) {K:Nat→Prop} (hK:∀ k,base≤k→K k):∃ g c,u=.slice (some ⟨g,0,none⟩) l.length c∧Ints K w u l:=by
 have hn:n=l.length:=by have:=h.1;unfold ivs at this;rw [List.length_map,Nat.mul_one] at this;omega
 rcases h.2 with ⟨_,h0⟩ | ⟨g,cap,cur,e1,e2,e3,_⟩
 · exact absurd (List.eq_nil_of_length_eq_zero (by omega)) hl
 · refine ⟨g,cap,by rw [e1,hn],some ⟨g,0,none⟩,cap,by rw [e1,hn],h1,fun _=>⟨g,0,rfl,hK g e2,(Array.getElem?_eq_some_iff.1 e3).1,fun i hi=>?_⟩⟩
   have:=h.cells (g:=g) (by rw [e1];rfl) i (.int .i64 ((l[i]:Nat):Int)) (by unfold ivs;simp [hi])
   rw [add0] at this
   rw [Nat.zero_add];exact this
theorem begin_new {A:Arr} (ha:ArcAt w ar v 0 0 0 0 0 0 (.slice none 0 0) (.slice none 0 0) off) (hV:Vol w v p D L G ps ho A F) (hF:Free F p A.n v) (hh:¬ F.has p A.n ar) (hf:A.fit) (hn:A.n=D+L+G) (hr:rightB D L G=true) (k6:1≤D) (hD:D≤12) (hL:1≤L) (k7:L≤4) (hG:G≤4) (hj:D % L=0) (k8:D+L+G≤16)
 (kd:3≤A.nb) (hw:A.wait < 0) (h4:∀ i,A.lost i=false) :
 Calls Tryz.prog 58 #[.pointer (some ⟨ar,0,none⟩)] w fun e w'=>e=.returned .nilIface∧ArrAt w' p (newArc A D L G) F∧(∃ u,ArcAt w' ar v D L G 1 2 0 u (.slice none 0 0) off∧Ints (fun k=>w.heap.size≤k) w' u [2])∧Outside (fun k=>k=ar∨F.has p A.n k) w w':=by
 have ke:=ha
 go_enter Tryz.func58,Tryz.ntmps58
 go_wp2_with fail
 refine beginWrite_region (by kernel_rfl) hV hF hh ha rfl hf hn hD k7 hG k8 (by omega) hw h4 rfl rfl ?_
 intro w1 vs k9 hm h5
 obtain ⟨y0,y1,y2,y3,y4,y5,y6,y7,y8,y9,ya,yb,rfl⟩:=list12 k9
 obtain ⟨A1,h0⟩:∃ A1,A.putAt (List.range A.n) 1 (fun _=>Rec.filled.blk)=A1:=⟨_,rfl⟩
 have h7:A1.fit:=by rw [← h0];exact hf.putAt _ _ _ fun _ _=>⟨blk_len (r:=.filled) trivial,blk_lt (r:=.filled) trivial⟩
 have hp:A1.n=A.n∧A1.nb=A.nb∧A1.wait=A.wait∧A1.lost=A.lost:=by rw [← h0];exact ⟨rfl,rfl,rfl,rfl⟩
 obtain ⟨an1,an2,an3,an4⟩:=hp
 rw [h0] at hm
 have h2:=ha.keep (h5.block _ ha.lt hh)
 have h1:=hV.turn hF h5 hm
 have hq:=pagesOf_any h2 h1.vol k6 (by omega) 0 (by decide)
 have hs:pgs D 0=1:=by unfold pgs;rw [Nat.div_eq_of_lt (by omega)];rfl
 rw [hs] at hq
 have hy:=arcTake_any h2 h1.vol h1.arr h7 (by rw [an1];omega) [] [] (Ints.nil _ _) (Cat.nil _ _) 1 (by decide)
 obtain ⟨fq1,fq2⟩:=frees_new (nb:=A1.nb) (by rw [an2];exact kd)
 rw [fq1,decide_eq_true fq2] at hy
 have H1:=hide7 h2 h1 h5 hq hy h7 h0
 clear h2 h1 h5 hq hy h7 h0 hm k9 fq1 fq2
 rename_i hK
 refine hK _ _ ?_
 clear hK
 simp only [Act.putFrom,Act.put,List.setIfInBounds_toArray,List.set_cons_succ,List.set_cons_zero]
 go_wp2_with fail
 refine H1.out.2.2.2.1.mono ?_
 rintro e w2 ⟨rfl,kf⟩
 subst kf
 go_wp2_with fail
 refine H1.out.2.2.2.2.1.mono ?_
 rintro e w3 ⟨u,rfl,h8,hc⟩
 obtain ⟨h2,h1,h5,_,_,h7,h0⟩:=H1.out
 have ka:=h2.keep (hc.block _ h2.lt)
 have kb:=h1.below hc (Nat.le_refl _)
 obtain ⟨g,c,hu,hz⟩:=own_ints (K:=fun k=>w2.heap.size≤k) h8 (by simp) (by decide) (fun k hk=>hk)
 subst hu
 have he:Ints (fun k=>¬ F.has p A1.n k) w3 (.slice (some ⟨g,0,none⟩) [2].length c) [2]:=by
  obtain ⟨ao,cc,q1,q2,q3⟩:=hz
  refine ⟨ao,cc,q1,q2,fun hl=>?_⟩
  obtain ⟨b,bo,r1,r2,r3⟩:=q3 hl
  exact ⟨b,bo,r1,fun q=>by have:=h1.arr.has_lt q;omega,r3⟩
 have kc:=commit_any ka kb (by rw [an1];exact hF) (by rw [an1];exact hh) h7 (by rw [an1];exact hn) hr k6 hD hL k7 hG hj k8 (by rw [an3];exact hw) (fun i=>by rw [an4];exact h4 i) (by decide) none 0 0 [] (fun x hx=>by cases hx) (by decide) (packOk_nil w3) g 0 c [2] he (by simp) (fun x hx=>by simp at hx;subst hx;rw [an2];omega) (fun k hk=>by simp at hk;subst hk;simp)
 have h3:Outside (F.has p A.n) w w3:=h5.trans (Outside.of_all hc _)
 have H3:=hide6 kc h3 hz h1 h2.lt h5.size
 clear kc h3 he hz ka kb h8 hc h2 h1 h5 h7
 go_wp2_with fail
 refine H3.out.1.mono ?_
 rintro e w4 ⟨rfl,h9,hg,h6⟩
 have H4:=hide3 h9 hg h6
 clear h9 hg h6
 go_wp2
 go_ret
 obtain ⟨h9,hg,h6⟩:=H4.out
 obtain ⟨_,h3,he,h1,kg,k0⟩:=H3.out
 rw [an1] at h9 h6
 refine ⟨rfl,?_,⟨_,hg,?_⟩,(h3.mono fun _ _ q=>.inr q).trans h6⟩
 · unfold newArc;rw [h0];exact h9
 · obtain ⟨ao,cc,q1,q2,q3⟩:=he
   refine ⟨ao,cc,q1,q2,fun hl=>?_⟩
   obtain ⟨b,bo,r1,r2,r3,r4⟩:=q3 hl
   have k5:b≠ar:=fun e=>by omega
   have kh:¬ F.has p A.n b:=fun q=>by have:=h1.arr.has_lt (k:=b) (by rw [an1];exact q);omega
   refine ⟨b,bo,r1,Nat.le_trans k0 r2,Nat.lt_of_lt_of_le r3 h6.size,fun i hi=>?_⟩
   exact (World.cell?_of_block (h6.block b r3 (fun q=>q.elim k5 kh))).trans (r4 i hi)
end
section
open Gf
def Arr.rd (A:Arr) (r:Nat→Int):Arr:={ A with reads:=r }
end
section
open Gf
theorem eqIn_iface (d:Nat) (tx:TypeId) (vx vy:Value) (i:TypeInfo) (hi:Tryz.prog.info? tx=some i) (hc:i.comparable=true) (w:World):(Op.equalIn (d+1) 164 (.iface tx vx) (.iface tx vy)).run Tryz.prog w=(Op.equalIn d tx vx vy).run Tryz.prog w:=by
 simp [Op.equalIn,run_underlying Tryz.underlying164,typeInfo,hi,hc]
theorem eqRoot_same (D L G t f n:Nat) (w:World):(Op.equalIn 9999 93 (.agg (rootA D L G t f n)) (.agg (rootA D L G t f n))).run Tryz.prog w=.ok true w:=by
 unfold rootA
 go_simp
theorem infoRoot:∃ i:TypeInfo,Tryz.prog.info? 93=some i∧i.comparable=true:=by
 have:(Tryz.prog.info? 93).map (fun i=>i.comparable)=some true:=by kernel_rfl
 rw [Option.map_eq_some_iff] at this
 exact this
theorem eqRec_same (D L G t f n:Nat) (w:World):(Op.equalIn 10000 164 (recV (.root D L G t f n)) (recV (.root D L G t f n))).run Tryz.prog w=.ok true w:=by
 obtain ⟨i,h1,h2⟩:=infoRoot
 exact (eqIn_iface 9999 93 _ _ i h1 h2 w).trans (eqRoot_same D L G t f n w)
end
theorem pow64 {k:Nat} (h:k < 64):2^k < 18446744073709551616:=Nat.lt_of_lt_of_le (Nat.pow_lt_pow_right (by decide) h) (Nat.le_refl _)
theorem with_any (x k:Nat) (hx:x < 18446744073709551616) (hk:k≤60) (w:World):Calls Tryz.prog 34 #[.int .u64 x,.int .i64 k] w fun e w'=>e=.returned (.int .u64 ((x|||2^k:Nat):Int))∧w'=w:=by
 have key:bits .or .u64 (x:Int) (IntKind.u64.wrap (2^k))=((x|||2^k:Nat):Int):=by
  have h1:=pow64 (k:=k) (by omega)
  have e:((2:Int)^k)=((2^k:Nat):Int):=by rw [Int.natCast_pow];rfl
  have e2:IntKind.u64.wrap (2^k)=((2^k:Nat):Int):=by
   rw [e,IntKind.wrap_u64]
   generalize 2^k=q at *
   omega
  rw [e2]
  exact bits_or_u64_nat x (2^k) hx h1
 go_enter Tryz.func34,Tryz.ntmps34
 go_wp2
 go_ret
 exact ⟨rfl,rfl⟩
structure Rt where
 D:Nat
 L:Nat
 G:Nat
 t:Nat
 f:Nat
 n:Nat
def rtA (x:Rt):Array Value:=rootA x.D x.L x.G x.t x.f x.n
def recO:Option Rec→Value
 | none=>.nilIface
 | some r=>recV r
def svStep (x:Rt):Option Rec→Rt
 | some (.root D L G t f n)=>if x.t < t then ⟨D,L,G,t,f,n⟩ else x
 | _=>x
def svLast (R:Nat→Option Rec):Nat→Rt
 | 0=>⟨0,0,0,0,0,0⟩
 | k+1=>svStep (svLast R k) (R k)
def svOr (x k:Nat):Option Rec→Nat
 | some .blank=>x|||2^k
 | _=>x
def svBlank (R:Nat→Option Rec):Nat→Nat
 | 0=>0
 | k+1=>svOr (svBlank R k) k (R k)
theorem svBlank_lt (R:Nat→Option Rec):∀ k,k≤60→svBlank R k < 2^k
 | 0,_=>by simp [svBlank]
 | k+1,h=>by
  have ih:=svBlank_lt R k (by omega)
  have h2:2^k < 2^(k+1):=Nat.pow_lt_pow_right (by decide) (by omega)
  show svOr (svBlank R k) k (R k) < 2^(k+1)
  unfold svOr
  split
  · exact Nat.or_lt_two_pow (by omega) h2
  · omega
theorem rt_store (hg:o.guard=none) (x y:Operand) (ho:o.op=.store 93 x y) {b D L G t f n:Nat} {cs:Array Value}
 (hx:a.eval x=.pointer (some ⟨b,0,none⟩)) (hy:a.eval y=.agg (rootA D L G t f n)) (hb:w.heap[b]?=some (.cells cs 93 (0,0))) (hc:cs.size=6) (h:wpList Tryz.prog ops Q rest (a.put o.dst undef) (w.setRow b (rootA D L G t f n))):wpList Tryz.prog ops Q (o :: rest) a w:=by
 refine wpList_plain hg fun K hK=>?_
 unfold Oper.wp
 simp [execOp,ho,hx,hy,root_store hb hc,Result.andThen]
 exact hK _ _ h
theorem ta_root (v:Value) (w:World):(Instr.typeAssert (.iface 93 v) 164 93 true).run Tryz.prog w=.ok (.tuple #[v,.bool true]) w:=by
 simp [Instr.typeAssert,run_underlying Tryz.underlying93]
theorem ta_root_not (t:TypeId) (h:t≠93) (v:Value) (w:World):(Instr.typeAssert (.iface t v) 164 93 true).run Tryz.prog w=.ok (.tuple #[.agg (rootA 0 0 0 0 0 0),.bool false]) w:=by
 simp [Instr.typeAssert,run_underlying Tryz.underlying93,h]
 rfl
theorem ta_root_nil (w:World):(Instr.typeAssert .nilIface 164 93 true).run Tryz.prog w=.ok (.tuple #[.agg (rootA 0 0 0 0 0 0),.bool false]) w:=by
 simp [Instr.typeAssert,run_underlying Tryz.underlying93]
 rfl
theorem blank_zero (w:World):(zeroValue 180).run Tryz.prog w=.ok (.agg #[]) w:=by
 obtain ⟨i0,h0,h1⟩:∃ i0,Tryz.prog.info? 180=some i0∧i0.zero=some (.agg #[]):=by
  have:(Tryz.prog.info? 180).map (fun i=>i.zero)=some (some (.agg #[])):=by kernel_rfl
  rw [Option.map_eq_some_iff] at this
  exact this
 simp [zeroValue,typeInfo,Sem.run_bind,h0,h1]
theorem ta_blank (v:Value) (w:World):(Instr.typeAssert (.iface 180 v) 164 180 true).run Tryz.prog w=.ok (.tuple #[v,.bool true]) w:=by
 simp [Instr.typeAssert,run_underlying Tryz.underlying180]
theorem ta_blank_not (t:TypeId) (h:t≠180) (v:Value) (w:World):(Instr.typeAssert (.iface t v) 164 180 true).run Tryz.prog w=.ok (.tuple #[.agg #[],.bool false]) w:=by
 simp [Instr.typeAssert,run_underlying Tryz.underlying180,h]
theorem ta_blank_nil (w:World):(Instr.typeAssert .nilIface 164 180 true).run Tryz.prog w=.ok (.tuple #[.agg #[],.bool false]) w:=by
 simp [Instr.typeAssert,run_underlying Tryz.underlying180]
def rootVar (w:World) (D L G t f n:Nat):World:=(w.alloc (.cells (rootA 0 0 0 0 0 0) 93)).setRow w.heap.size (rootA D L G t f n)
theorem rootVar_at (w:World) (D L G t f n:Nat):(rootVar w D L G t f n).heap[w.heap.size]?=some (.cells (rootA D L G t f n) 93 (0,0)):=setRow_heap _ _ _ _ _ _ (blk_alloc_new w (.cells (rootA 0 0 0 0 0 0) 93))
theorem rootVar_below (w:World) (D L G t f n:Nat):Below w.heap.size w (rootVar w D L G t f n):=((Below.refl _ w).alloc (Nat.le_refl _) _).trans ⟨rfl,rfl,rfl,by unfold rootVar;rw [size_setRow];exact Nat.le_refl _,fun k hk=>(grown_setRow' _ _ _).block k (by simp;omega) (fun q=>by have:=Option.some.inj q;omega)⟩
theorem rt_new (hg:o.guard=none) (x y:Operand) (ho:o.op=.store 93 x y) {D L G t f n:Nat}
 (hx:a.eval x=.pointer (some ⟨w.heap.size,0,none⟩)) (hy:a.eval y=.agg (rootA D L G t f n)) (h:wpList Tryz.prog ops Q rest (a.put o.dst undef) (rootVar w D L G t f n)):wpList Tryz.prog ops Q (o :: rest) a (w.alloc (.cells (rootA 0 0 0 0 0 0) 93)):=
 rt_store hg x y ho hx hy (blk_alloc_new _ _) rfl h
def BkR (w:World) (R:Nat→Option Rec) (N:Nat) (s i:Value) (wr:World):Prop:=∃ k:Nat,k≤N∧i=.int .i64 k∧s=.int .u64 (svBlank R k:Nat)∧Below w.heap.size w wr
theorem blanks_any (R:Nat→Option Rec) (hN:N≤60) (h0:w.rowIs g 164 N (fun i=>recO (R i))) :
 Calls Tryz.prog 57 #[.slice (some ⟨g,0,none⟩) N N] w fun e w'=>e=.returned (.int .u64 (svBlank R N:Nat))∧Below w.heap.size w w':=by
 have h7:=h0.lt
 have hz:=blank_zero
 go_enter Tryz.func57,Tryz.ntmps57
 go_wp2_with fail
 go_loopw [2,9] (fun s i wr=>BkR w R N s i wr) (fun _ i _=>N - (intOf i).toNat)
 case atStart=>exact ⟨0,Nat.zero_le _,rfl,rfl,Below.refl _ _⟩
 case round=>
  obtain ⟨k,hk,rfl,rfl,h1⟩:=hrel
  by_cases h8:k < N
  · have h2:wr.rowIs g 164 N (fun i=>recO (R i)):=h0.of_block (h1.block g h7)
    have c:=h2.cell (i:=k) h8
    have hs:svBlank R (k+1)=svOr (svBlank R k) k (R k):=rfl
    have h3:=svBlank_lt R k (by omega)
    have h6:svBlank R k < 18446744073709551616:=Nat.lt_trans h3 (pow64 (by omega))
    have h4:=h1.size
    cases h5:R k with
    | none=>
     have t2:=ta_blank_nil
     rw [h5] at c hs
     simp only [recO] at c
     have H:=hide2 h1 hs
     clear h1 h2 hs h3 h0
     go_wp2
     refine ⟨⟨k+1,by omega,by go_num,by rw [H.out.2];rfl,H.out.1.alloc h4 _⟩,by simp [intOf];omega⟩
    | some r=>
     cases r with
     | shard l=>
      have t2:=ta_blank_not 162 (by decide)
      rw [h5] at c hs
      simp only [recO,recV] at c
      have H:=hide2 h1 hs
      clear h1 h2 hs h3 h0
      go_wp2
      refine ⟨⟨k+1,by omega,by go_num,by rw [H.out.2];rfl,H.out.1.alloc h4 _⟩,by simp [intOf];omega⟩
     | filled=>
      have t2:=ta_blank_not 137 (by decide)
      rw [h5] at c hs
      simp only [recO,recV] at c
      have H:=hide2 h1 hs
      clear h1 h2 hs h3 h0
      go_wp2
      refine ⟨⟨k+1,by omega,by go_num,by rw [H.out.2];rfl,H.out.1.alloc h4 _⟩,by simp [intOf];omega⟩
     | root D L G t f n=>
      have t2:=ta_blank_not 93 (by decide)
      rw [h5] at c hs
      simp only [recO,recV] at c
      have H:=hide2 h1 hs
      clear h1 h2 hs h3 h0
      go_wp2
      refine ⟨⟨k+1,by omega,by go_num,by rw [H.out.2];rfl,H.out.1.alloc h4 _⟩,by simp [intOf];omega⟩
     | blank=>
      have t2:=ta_blank
      rw [h5] at c hs
      simp only [recO,recV] at c
      have H:=hide2 h1 hs
      clear h1 h2 hs h3 h0
      go_wp2_with fail
      refine (with_any _ k h6 (by omega) _).mono ?_
      rintro e w2 ⟨rfl,rfl⟩
      go_wp2
      refine ⟨⟨k+1,by omega,by go_num,by rw [H.out.2];rfl,H.out.1.alloc h4 _⟩,by simp [intOf];omega⟩
  · have h9:k=N:=by omega
    subst h9
    have H:=hide h1
    clear h1 h0
    go_wp2
    go_ret
    exact ⟨rfl,H.out⟩
def LrR (w:World) (R:Nat→Option Rec) (N:Nat) (i:Value) (wr:World):Prop:=∃ k:Nat,k≤N∧i=.int .i64 k∧wr.heap[w.heap.size]?=some (.cells (rtA (svLast R k)) 93 (0,0))∧Below w.heap.size w wr
theorem lastRoot_any (R:Nat→Option Rec) (hN:N≤60) (h2:w.rowIs g 164 N (fun i=>recO (R i))) :
 Calls Tryz.prog 54 #[.slice (some ⟨g,0,none⟩) N N] w fun e w'=>e=.returned (.agg (rtA (svLast R N)))∧Below w.heap.size w w':=by
 have hi:=h2.lt
 have h0:(w.alloc (.cells (rootA 0 0 0 0 0 0) 93)).heap[w.heap.size]?=some (.cells (rtA (svLast R 0)) 93 (0,0)):=blk_alloc_new _ _
 have hf:Below w.heap.size w (w.alloc (.cells (rootA 0 0 0 0 0 0) 93)):=(Below.refl _ w).alloc (Nat.le_refl _) _
 have hz:=root_zero
 go_enter Tryz.func54,Tryz.ntmps54
 go_wp2_with fail
 go_loopw [9] (fun i wr=>LrR w R N i wr) (fun i _=>N - (intOf i).toNat)
 case atStart=>exact ⟨0,Nat.zero_le _,rfl,h0,hf⟩
 case round=>
  clear h0 hf
  obtain ⟨k,hk,rfl,hB,h3⟩:=hrel
  by_cases hj:k < N
  · have h6:wr.rowIs g 164 N (fun i=>recO (R i)):=h2.of_block (h3.block g hi)
    have c:=h6.cell (i:=k) hj
    have hl:svLast R (k+1)=svStep (svLast R k) (R k):=rfl
    have hg:=h3.size
    have h7:w.heap.size < wr.heap.size:=(Array.getElem?_eq_some_iff.1 hB).1
    have h4:(rootVar wr 0 0 0 0 0 0).heap[w.heap.size]?=some (.cells (rtA (svLast R k)) 93 (0,0)):=((rootVar_below wr 0 0 0 0 0 0).block _ h7).trans hB
    have h1:Below w.heap.size w (rootVar wr 0 0 0 0 0 0):=h3.trans ((rootVar_below wr 0 0 0 0 0 0).mono hg)
    cases h8:R k with
    | none=>
     have t1:=ta_root_nil
     rw [h8] at c hl
     simp only [recO] at c
     have H:=hide3 h4 h1 hl
     clear hB h3 h6 hl h2 h4 h1
     go_wp2_with (show wpList _ _ _ ({ dst:=none,op:=Op.store 93 (.tmp 5) (.tmp 16),type:=_,pos:=_,after:=_,guard:=_ } :: _) _ _;refine rt_new (w:=wr) (D:=0) (L:=0) (G:=0) (t:=0) (f:=0) (n:=0) rfl (.tmp 5) (.tmp 16) rfl (by rfl) (by rfl) ?_)
     refine ⟨⟨k+1,by omega,by go_num,by rw [H.out.2.2];exact H.out.1,H.out.2.1⟩,by simp [intOf];omega⟩
    | some r=>
     cases r with
     | shard l=>
      have t1:=ta_root_not 162 (by decide)
      rw [h8] at c hl
      simp only [recO,recV] at c
      have H:=hide3 h4 h1 hl
      clear hB h3 h6 hl h2 h4 h1
      go_wp2_with (show wpList _ _ _ ({ dst:=none,op:=Op.store 93 (.tmp 5) (.tmp 16),type:=_,pos:=_,after:=_,guard:=_ } :: _) _ _;refine rt_new (w:=wr) (D:=0) (L:=0) (G:=0) (t:=0) (f:=0) (n:=0) rfl (.tmp 5) (.tmp 16) rfl (by rfl) (by rfl) ?_)
      refine ⟨⟨k+1,by omega,by go_num,by rw [H.out.2.2];exact H.out.1,H.out.2.1⟩,by simp [intOf];omega⟩
     | blank=>
      have t1:=ta_root_not 180 (by decide)
      rw [h8] at c hl
      simp only [recO,recV] at c
      have H:=hide3 h4 h1 hl
      clear hB h3 h6 hl h2 h4 h1
      go_wp2_with (show wpList _ _ _ ({ dst:=none,op:=Op.store 93 (.tmp 5) (.tmp 16),type:=_,pos:=_,after:=_,guard:=_ } :: _) _ _;refine rt_new (w:=wr) (D:=0) (L:=0) (G:=0) (t:=0) (f:=0) (n:=0) rfl (.tmp 5) (.tmp 16) rfl (by rfl) (by rfl) ?_)
      refine ⟨⟨k+1,by omega,by go_num,by rw [H.out.2.2];exact H.out.1,H.out.2.1⟩,by simp [intOf];omega⟩
     | filled=>
      have t1:=ta_root_not 137 (by decide)
      rw [h8] at c hl
      simp only [recO,recV] at c
      have H:=hide3 h4 h1 hl
      clear hB h3 h6 hl h2 h4 h1
      go_wp2_with (show wpList _ _ _ ({ dst:=none,op:=Op.store 93 (.tmp 5) (.tmp 16),type:=_,pos:=_,after:=_,guard:=_ } :: _) _ _;refine rt_new (w:=wr) (D:=0) (L:=0) (G:=0) (t:=0) (f:=0) (n:=0) rfl (.tmp 5) (.tmp 16) rfl (by rfl) (by rfl) ?_)
      refine ⟨⟨k+1,by omega,by go_num,by rw [H.out.2.2];exact H.out.1,H.out.2.1⟩,by simp [intOf];omega⟩
     | root D L G t f n=>
      have t1:=ta_root
      rw [h8] at c hl
      simp only [recO,recV] at c
      have h9:=rootVar_at wr D L G t f n
      have ha:(rootVar wr D L G t f n).heap[w.heap.size]?=some (.cells (rtA (svLast R k)) 93 (0,0)):=((rootVar_below wr D L G t f n).block _ h7).trans hB
      have hc:Below w.heap.size w (rootVar wr D L G t f n):=h3.trans ((rootVar_below wr D L G t f n).mono hg)
      obtain ⟨w6,he⟩:∃ w6,rootVar wr D L G t f n=w6:=⟨_,rfl⟩
      rw [he] at h9 ha hc
      have c6:w6.cell? ⟨wr.heap.size,3,none⟩=some (.int .u64 t):=by simp [World.cell?,h9,rootA]
      have c0:w6.cell? ⟨w.heap.size,3,none⟩=some (.int .u64 (svLast R k).t):=by simp [World.cell?,ha,rtA,rootA]
      have H:=hide5 he h9 ha hc hl
      clear hB h3 h6 hl h2 he h9 ha hc h4 h1
      by_cases hh:(svLast R k).t < t
      · go_wp2_with (first | (show wpList _ _ _ ({ dst:=none,op:=Op.store 93 (.tmp 5) (.tmp 16),type:=_,pos:=_,after:=_,guard:=_ } :: _) _ _;refine rt_new (w:=wr) (D:=D) (L:=L) (G:=G) (t:=t) (f:=f) (n:=n) rfl (.tmp 5) (.tmp 16) rfl (by rfl) (by rfl) ?_;rw [H.out.1]) | (show wpList _ _ _ ({ dst:=some 26,op:=_,type:=_,pos:=_,after:=_,guard:=_ } :: _) _ _;refine rt_load (D:=D) (L:=L) (G:=G) (t:=t) (f:=f) (n:=n) (b:=wr.heap.size) rfl (.tmp 5) rfl rfl (by rfl) (by exact H.out.2.1) ?_) | (show wpList _ _ _ ({ dst:=none,op:=Op.store 93 (.tmp 2) (.tmp 26),type:=_,pos:=_,after:=_,guard:=_ } :: _) _ _;refine rt_store (D:=D) (L:=L) (G:=G) (t:=t) (f:=f) (n:=n) (b:=w.heap.size) (cs:=rtA (svLast R k)) rfl (.tmp 2) (.tmp 26) rfl (by rfl) (by rfl) (by exact H.out.2.2.1) rfl ?_))
        obtain ⟨_,q3,q4,q5,q7⟩:=H.out
        refine ⟨⟨k+1,by omega,by go_num,?_,q5.trans ⟨rfl,rfl,rfl,by rw [size_setRow];exact Nat.le_refl _,fun k hk=>(grown_setRow' _ _ _).block k (Nat.lt_of_lt_of_le hk q5.size) (fun q=>by have:=Option.some.inj q;omega)⟩⟩,by simp [intOf];omega⟩
        rw [q7]
        rw [show svStep (svLast R k) (some (.root D L G t f n))=⟨D,L,G,t,f,n⟩ from if_pos hh]
        exact setRow_heap _ _ _ _ _ _ q4
      · go_wp2_with (show wpList _ _ _ ({ dst:=none,op:=Op.store 93 (.tmp 5) (.tmp 16),type:=_,pos:=_,after:=_,guard:=_ } :: _) _ _;refine rt_new (w:=wr) (D:=D) (L:=L) (G:=G) (t:=t) (f:=f) (n:=n) rfl (.tmp 5) (.tmp 16) rfl (by rfl) (by rfl) ?_;rw [H.out.1])
        obtain ⟨_,q3,q4,q5,q7⟩:=H.out
        refine ⟨⟨k+1,by omega,by go_num,?_,q5⟩,by simp [intOf];omega⟩
        rw [q7]
        rw [show svStep (svLast R k) (some (.root D L G t f n))=svLast R k from if_neg hh]
        exact q4
  · have hm:k=N:=by omega
    subst hm
    have H:=hide2 hB h3
    clear hB h3 h2
    go_wp2_with (first | (show wpList _ _ _ ({ dst:=some 28,op:=_,type:=_,pos:=_,after:=_,guard:=_ } :: _) _ _;refine rt_load (b:=w.heap.size) (ra:=rtA (svLast R k)) rfl (.tmp 2) rfl rfl (by rfl) (by exact H.out.1) ?_) | (show wpList _ _ _ ({ dst:=none,op:=Op.store 93 (.tmp 2) (.tmp 28),type:=_,pos:=_,after:=_,guard:=_ } :: _) _ _;refine rt_store (b:=w.heap.size) (cs:=rtA (svLast R k)) (D:=(svLast R k).D) (L:=(svLast R k).L) (G:=(svLast R k).G) (t:=(svLast R k).t) (f:=(svLast R k).f) (n:=(svLast R k).n) rfl (.tmp 2) (.tmp 28) rfl (by rfl) (by rfl) (by exact H.out.1) rfl ?_))
    have h5:=setRow_heap _ _ _ (rtA (svLast R k)) _ _ H.out.1
    refine bodyPost_ret (v:=.agg (rtA (svLast R k))) (results_cell_row Tryz.results54 _ _ w.heap.size 93 (rtA (svLast R k)) (0,0) _ rfl h5 Tryz.underlying93 rfl (rootA_info _ _ _ _ _ _)) rfl ?_
    exact ⟨rfl,H.out.2.trans ⟨rfl,rfl,rfl,by rw [size_setRow];exact Nat.le_refl _,fun k hk=>(grown_setRow' _ _ _).block k (Nat.lt_of_lt_of_le hk H.out.2.size) (fun q=>by have:=Option.some.inj q;omega)⟩⟩
end Go.Proofs.YthcgahldacpolaaGreatDoor
