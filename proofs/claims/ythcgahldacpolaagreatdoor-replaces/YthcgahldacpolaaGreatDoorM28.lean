import Derived.Test.YthcgahldacpolaaGreatDoorM27
import Derived.Deep.CutRange
set_option maxRecDepth 100000
set_option maxHeartbeats 8000000
namespace Go.Proofs.YthcgahldacpolaaGreatDoor
open Go.RowKit Go.Deep
variable {cache:Int} {wb D L G blocks p:Nat} {s r out want:Value} {w:World}
def wbL (D L G:Nat) (a s r:Value) (blocks:Nat) (out want:Value) (cache:Int):List Value:=[.int .i64 (D:Nat),.int .i64 (L:Nat),.int .i64 (G:Nat),a,s,r,.int .i64 (blocks:Nat),out,want,.int .i64 cache]
def WbAt (w:World) (wb D L G:Nat) (a s r:Value) (blocks:Nat) (out want:Value) (cache:Int):Prop:=RowC w wb 35 (wbL D L G a s r blocks out want cache)
theorem WbAt.cells {a:Value} (h:WbAt w wb D L G a s r blocks out want cache) :
 w.cell? ⟨wb,0,none⟩=some (.int .i64 (D:Nat))∧w.cell? ⟨wb,1,none⟩=some (.int .i64 (L:Nat))∧w.cell? ⟨wb,2,none⟩=some (.int .i64 (G:Nat))∧w.cell? ⟨wb,3,none⟩=some a∧w.cell? ⟨wb,4,none⟩=some s∧w.cell? ⟨wb,5,none⟩=some r∧w.cell? ⟨wb,6,none⟩=some (.int .i64 (blocks:Nat))∧w.cell? ⟨wb,7,none⟩=some out∧w.cell? ⟨wb,8,none⟩=some want∧w.cell? ⟨wb,9,none⟩=some (.int .i64 cache):=
 ⟨RowC.cell h rfl,RowC.cell h rfl,RowC.cell h rfl,RowC.cell h rfl,RowC.cell h rfl,RowC.cell h rfl,RowC.cell h rfl,RowC.cell h rfl,RowC.cell h rfl,RowC.cell h rfl⟩
theorem wopen_any (h:WbAt w wb D L G (.pointer (some ⟨p,0,none⟩)) s r blocks out want cache) (hs:∃ o,s=.pointer o) (R:Nat→World→Prop) (hR:∀ sa w2,R sa w2→w2.heap[wb]?=w.heap[wb]?)
 (ho:Calls Tryz.prog 19 #[.pointer (some ⟨p,0,none⟩),.agg #[.int .i64 D,.int .i64 L,.int .i64 G],.agg #[.int .i64 cache]] w.drew fun e w2=>∃ sa,e=.returned (.tuple #[.pointer (some ⟨sa,0,none⟩),.nilIface])∧R sa w2) :
 Calls Tryz.prog 13 #[.pointer (some ⟨wb,0,none⟩)] w fun e w'=>e=.returned (.bool true)∧∃ sa w2 w3,R sa w2∧Below w2.heap.size w2 w3∧WbAt w' wb D L G (.pointer (some ⟨p,0,none⟩)) (.pointer (some ⟨sa,0,none⟩)) r blocks out want cache∧w'=w3.setCell ⟨wb,4,none⟩ (.pointer (some ⟨sa,0,none⟩)):=by
 obtain ⟨c0,c1,c2,c3,c4,c5,c6,c7,c8,c9⟩:=h.cells
 have HO:=hide3 ho h hR
 clear ho h hR c4 c5 c6 c7 c8
 go_enter Tryz.func13,Tryz.ntmps13
 go_upto_region 1 with fail
 go_cut [3,4] from 6 to 34 (fun v3 v4 wx=>∃ sa,v3=.pointer (some ⟨sa,0,none⟩)∧v4=.nilIface∧R sa wx)
 case first=>
  go_region_with (go_at_call 19;refine HO.out.1.mono ?_;rintro e w2 ⟨sa,rfl,h0⟩;have H2:=hide h0;clear h0)
  all_goals (go_wp2_with fail;go_meet;case rel=>exact ⟨sa,rfl,rfl,H2.out⟩)
 case rest=>
  obtain ⟨sa,rfl,rfl,h0⟩:=hcut
  have hW:WbAt wc wb D L G (.pointer (some ⟨p,0,none⟩)) s r blocks out want cache:=RowC.keep HO.out.2.1 (HO.out.2.2 sa wc h0)
  obtain ⟨so,rfl⟩:=hs
  have d4:=hW.cells.2.2.2.2.1
  have f4:=RowC.thaw hW 4
  have H2:=hide2 h0 hW
  clear h0 hW c0 c1 c2 c3 c9
  go_wp2_with fail
  refine (tell_nil wc).mono ?_
  rintro e w3 ⟨rfl,h2⟩
  have h1:WbAt w3 wb D L G (.pointer (some ⟨p,0,none⟩)) (.pointer so) r blocks out want cache:=RowC.keep H2.out.2 (h2.block _ (RowC.lt H2.out.2))
  have e4:=h1.cells.2.2.2.2.1
  have g4:=RowC.thaw h1 4
  have H3:=hide2 h2 h1
  clear h2 h1 d4 f4
  dsimp only
  go_wp2
  go_ret
  refine ⟨rfl,sa,wc,w3,H2.out.1,H3.out.1,?_,rfl⟩
  exact RowC.set H3.out.2 4 [.pointer (some ⟨sa,0,none⟩)] (by simp [wbL])
section
open Gf
theorem Live.other {w':World} {ar v ps t:Nat} {pg ob:Value} {P:List Nat} {xs:Obs} {A:Arr} {F:Foot} (h:Live w ar v p ps D L G t pg ob P xs A F) (hz:w.heap.size≤w'.heap.size) {b:Nat} (hk:∀ j,j≠b→j < w.heap.size→w'.heap[j]?=w.heap[j]?) (hb:b < ar) (h1:b≠v) (h2:¬ F.has p A.n b) (h4:3≤b):Live w' ar v p ps D L G t pg ob P xs A F:=by
 have k1:2 < 3:=by decide
 have k2:1 < 3:=by decide
 have h0:KpS (fun k=>ar < k∧¬ F.has p A.n k) w w':=⟨hz,fun k h3 hK=>hk k (by have:=hK.1;omega) h3⟩
 exact ⟨h.arc.keep (hk _ (by omega) h.arc.lt),⟨h.vol.vol.keep (hk _ (Ne.symm h1) h.vol.vol.lt),h.vol.arr.keep fun j hj=>hk j (fun e=>h2 (e ▸ hj)) (h.vol.arr.has_lt hj),h.vol.laid.keep (hk _ (by omega) h.vol.laid.lt),h.vol.tab.keep (hk _ (by omega) h.vol.tab.lt),Nat.le_trans h.vol.room hz⟩,h.free,h.nar,h.vne,h.arK,h.fit,h.par,h.disk,h.pgs.keep h0,h.cat.keep h0,h.nb,h.turn⟩
end
def oCells (L:List (ByteArray×Value)):List Value:=L.flatMap fun q=>[.string q.1,q.2]
structure RAt (w:World) (r base:Nat) (v:Value) (L:List (ByteArray×Value)):Prop where
 top:w.heap[r]?=some (.cells #[v] 50 (0,0))
 own:w.ownsRow base 317 2 v L.length (oCells L)
def BgPost (w:World) (D L G nb c0:Nat) (e:Ending) (w':World):Prop:=
 ∃ wb p r sa ar v ps cache F pg A,e=.returned (.tuple #[.pointer (some ⟨wb,0,none⟩),.bool true])∧WbAt w' wb D L G (.pointer (some ⟨p,0,none⟩)) (.pointer (some ⟨sa,0,none⟩)) (.pointer (some ⟨r,0,none⟩)) nb (.slice none 0 0) (.slice none 0 0) cache ∧
  RAt w' r (r+1) (.slice none 0 0) []∧Boxed w' sa 54 (.pointer (some ⟨ar,0,none⟩))∧Live w' ar v p ps D L G 1 pg (.slice none 0 0) [2] [] A F∧A.nb=nb∧w.heap.size≤p∧(∀ k,F.has p A.n k→w.heap.size≤k)∧w.heap.size≤r∧w.heap.size≤wb∧wb < ar∧wb < v∧¬ F.has p A.n wb∧¬ F.has p A.n r∧r < ar∧r < v∧wb≠r∧0≤cache∧cache≤64∧wb < sa∧r < sa∧Below w.heap.size w w'∧(∃ sb,ps=sb+1+1+1∧(∀ k,F.has p A.n k→k < r)∧wb < sb∧r < sb∧ps < v∧v < ar∧ShAt w' sb cache∧cache=(c0:Int))
theorem begin_any {nb:Nat} (hr:Pars D L G) (kg:8≤nb) (k9:nb≤1000) (c:Int) (hv:hvLaid w) (ht:tabLaid w) (hK:3≤w.heap.size) :
 Calls Tryz.prog 5 #[.agg #[.int .i64 (D:Nat),.int .i64 (L:Nat),.int .i64 (G:Nat)],.int .i64 (nb:Nat),.int .i64 c] w fun e w'=>∃ c0:Nat,c0 < 65∧(c=0→c0=0)∧BgPost w D L G nb c0 e w':=by
 obtain ⟨kc,kr,ekc⟩:=rem_key c 65 (by decide) (by decide)
 have ekc':wrap64 ((IntKind.u64.wrap c).tmod 65)=(kc:Int):=by simpa using ekc
 clear ekc
 have hm:c=0→kc=0:=fun e=>by
  subst e
  have:wrap64 ((IntKind.u64.wrap 0).tmod 65)=0:=by rw [IntKind.wrap_u64];simp [wrap64]
  omega
 have ks:=hide hm
 clear hm
 obtain ⟨w1,ka⟩:∃ w1,w.alloc (.cells #[.int .i64 (D:Nat),.int .i64 (L:Nat),.int .i64 (G:Nat)] 23)=w1:=⟨_,rfl⟩
 have hn:RowC w1 w.heap.size 23 [.int .i64 (D:Nat),.int .i64 (L:Nat),.int .i64 (G:Nat)]:=by rw [← ka];exact heap_alloc_last w _
 have x0:=hn.cell (j:=0) (u:=.int .i64 (D:Nat)) rfl
 have x1:=hn.cell (j:=1) (u:=.int .i64 (L:Nat)) rfl
 have x2:=hn.cell (j:=2) (u:=.int .i64 (G:Nat)) rfl
 have kh:Below w.heap.size w w1:=by rw [← ka];exact (Below.refl _ w).alloc (Nat.le_refl _) _
 have ki:=shards_sz (D:Int) (L:Int) (G:Int) w1 ⟨by omega,by have:=hr.d;omega⟩ ⟨by omega,by have:=hr.l4;omega⟩ ⟨by omega,by have:=hr.g;omega⟩
 have H1:=hide2 hn kh
 clear hn kh
 go_enter Tryz.func5,Tryz.ntmps5
 go_wp2_with fail
 refine ki.mono ?_
 rintro e w2 ⟨rfl,kj⟩
 have k0:Below w1.heap.size w1 w2:=by rw [kj];exact (Below.refl _ w1).alloc (Nat.le_refl _) _
 clear kj ka x0 x1 x2 ki
 have kb:=newArray_any (D+L+G) nb w2 (by have:=hr.s;omega) (by omega)
 rw [show ((D+L+G:Nat):Int)=(D:Int)+(L:Int)+(G:Int) by omega] at kb
 go_wp2_with fail
 refine kb.mono ?_
 rintro e w3 ⟨rfl,hh,hF⟩
 obtain ⟨F,he,h9⟩:∃ F:Foot,ArrAt w3 w2.heap.size (newArr (D+L+G) nb) F∧∀ k,F.has w2.heap.size (D+L+G) k→w2.heap.size≤k:=by
  rcases hF with ⟨h0,_⟩ | ⟨_,F,h1,h2⟩
  · have:=hr.d1;omega
  · exact ⟨F,h1,h2⟩
 have h4:Below w.heap.size w w2:=H1.out.2.trans (k0.mono H1.out.2.size)
 have h6:Below w.heap.size w w3:=h4.trans (hh.mono h4.size)
 have k5:RowC w3 w.heap.size 23 _:=H1.out.1.keep ((hh.block _ (Nat.lt_of_lt_of_le H1.out.1.lt k0.size)).trans (k0.block _ H1.out.1.lt))
 have y0:=k5.cell (j:=0) (u:=.int .i64 (D:Nat)) rfl
 have y1:=k5.cell (j:=1) (u:=.int .i64 (L:Nat)) rfl
 have y2:=k5.cell (j:=2) (u:=.int .i64 (G:Nat)) rfl
 obtain ⟨p,hp⟩:∃ p,w2.heap.size=p:=⟨_,rfl⟩
 rw [hp] at he h9 ⊢
 have H3:=hide6 he h9 h6 hh hp h4
 clear he h9 h6 hh hp h4 k5 hF kb k0
 dsimp only
 go_wp2_with fail
 obtain ⟨w5,hi⟩:∃ w5,(w3.alloc (.cells #[.slice none 0 0] 50)).alloc (.cells #[.int .i64 (D:Nat),.int .i64 (L:Nat),.int .i64 (G:Nat),.pointer (some ⟨p,0,none⟩),.pointer none,.pointer (some ⟨w3.heap.size,0,none⟩),.int .i64 (nb:Nat),.slice none 0 0,.slice none 0 0,.int .i64 (kc:Nat)] 35)=w5:=⟨_,rfl⟩
 have k6:w5.heap[w3.heap.size]?=some (.cells #[.slice none 0 0] 50 (0,0)):=by rw [← hi];exact (blk_alloc_lt _ _ _ (by simp)).trans (heap_alloc_last w3 _)
 have k7:WbAt w5 (w3.heap.size+1) D L G (.pointer (some ⟨p,0,none⟩)) (.pointer none) (.pointer (some ⟨w3.heap.size,0,none⟩)) nb (.slice none 0 0) (.slice none 0 0) (kc:Int):=by
  rw [← hi]
  have:=heap_alloc_last (w3.alloc (.cells #[.slice none 0 0] 50)) (.cells #[.int .i64 (D:Nat),.int .i64 (L:Nat),.int .i64 (G:Nat),.pointer (some ⟨p,0,none⟩),.pointer none,.pointer (some ⟨w3.heap.size,0,none⟩),.int .i64 (nb:Nat),.slice none 0 0,.slice none 0 0,.int .i64 (kc:Nat)] 35)
  rw [World.size_alloc] at this
  exact this
 have hf:Below w3.heap.size w3 w5:=by rw [← hi];exact ((Below.refl _ w3).alloc (Nat.le_refl _) _).alloc (by simp) _
 have kd:w5.heap.size=w3.heap.size+2:=by rw [← hi];simp
 obtain ⟨he,h9,h6,hh,hp,h4⟩:=H3.out
 have h7:Below w.heap.size w w5:=h6.trans (hf.mono h6.size)
 have hg:Below w5.heap.size w5 w5.drew:=(Below.refl _ w5).drew
 have hq:ArrAt w5.drew p (newArr (D+L+G) nb) F:=(he.below hf (Nat.le_refl _)).below hg (Nat.le_refl _)
 have k1:2 < 3:=by decide
 have k2:1 < 3:=by decide
 have hs:=h4.size
 have h8:∀ k,F.has p (D+L+G) k→k < w3.heap.size:=fun k hk=>he.has_lt hk
 have hx:¬ F.has p (D+L+G) 2:=fun e=>by have:=h9 _ e;omega
 have hy:¬ F.has p (D+L+G) 1:=fun e=>by have:=h9 _ e;omega
 have ha:Below w.heap.size w w5.drew:=h7.trans (hg.mono h7.size)
 have kk:=sopen_new (cache:=(kc:Int)) (A:=newArr (D+L+G) nb) hq (newArr_fit (by have:=hr.s;omega) (by omega)) rfl hr.r hr.d1 hr.d hr.l1 hr.l4 hr.g hr.div hr.s (by omega) (by omega) kg (by show (-1:Int) < 0;omega) (fun _=>rfl) (fun _=>rfl) (fun _ _=>rfl) (hv.below ha hv.lt) (ht.keep (ha.block _ ht.lt)) (Nat.le_trans hK ha.size) hx hy
 have km:=wopen_any k7 ⟨_,rfl⟩ (fun sa w2=>∃ ar v ps u,w5.heap.size≤sa∧Boxed w2 sa 54 (.pointer (some ⟨ar,0,none⟩))∧NewArc w5.drew w2 p D L G ar v ps u (newArr (D+L+G) nb) F kc)
  (fun sa w2 hR=>by
   obtain ⟨ar,v,ps,u,_,_,hN⟩:=hR
   exact hN.out.block _ (by show w3.heap.size+1 < w5.heap.size;omega) (fun e=>by have:=h8 _ e;omega))
  (kk.mono (by
   rintro e w2 ⟨sa,ar,v,ps,u,rfl,h1,h2,h3⟩
   exact ⟨sa,rfl,ar,v,ps,u,h1,h2,h3⟩))
 have H5:=hide8 k6 k7 h7 kd hq h8 hx hy
 clear k6 k7 hf kd he h9 h6 hh hp h4 h7 hg hq k1 k2 hs h8 hx hy ha kk
 rw [hi]
 refine km.mono ?_
 rintro e w6 ⟨rfl,sa,w7,w8,⟨ar,v,ps,u,ke,hz,hN⟩,h5,k8,kn⟩
 have H6:=hide6 ke hz hN h5 k8 kn
 clear ke hz hN h5 k8 kn km hi
 dsimp only
 go_wp2
 go_ret2
 obtain ⟨k6,k7,h7,kd,hq,h8,hx,hy⟩:=H5.out
 obtain ⟨ke,hz,hN,h5,k8,rfl⟩:=H6.out
 obtain ⟨_,h9,h6,_,hp,h4⟩:=H3.out
 have kv:=h6.size
 have hs:=h4.size
 have kx:w5.heap.size≤ar:=hN.arGe
 have q1:w5.heap.size≤v:=hN.vGe
 have hc:∀ j,j≠w3.heap.size+1→(w8.setCell ⟨w3.heap.size+1,4,none⟩ (.pointer (some ⟨sa,0,none⟩))).heap[j]?=w8.heap[j]?:=fun j hj=>blk_setCell_other _ _ _ _ hj
 have q2:w5.heap.size≤w7.heap.size:=hN.out.size
 have q3:=h5.size
 have ko:¬ F.has p (D+L+G) w3.heap.size:=fun e=>by have:=h8 _ e;omega
 have kp:¬ F.has p (D+L+G) (w3.heap.size+1):=fun e=>by have:=h8 _ e;omega
 have ky:=live_new hN hq rfl hr kg k9 (by show (-1:Int) < 0;omega) (fun _=>rfl) (fun _ _=>rfl) (Nat.le_trans hK h7.size) hx hy (newArc_fit ((newArr_fit (by have:=hr.s;omega) (by omega)).readTo _) hr.d hr.l4 hr.g rfl)
 have kz:=ky.below h5
 have q0:=kz.other (w':=w8.setCell ⟨w3.heap.size+1,4,none⟩ (.pointer (some ⟨sa,0,none⟩))) (by simp [World.setCell]) (fun j hj _=>hc j hj) (by omega) (by omega) kp (by omega)
 have hO:Outside (F.has p (D+L+G)) w5 w7:=(Outside.drew w5).trans hN.out
 have kf:Below w.heap.size w (w8.setCell ⟨w3.heap.size+1,4,none⟩ (.pointer (some ⟨sa,0,none⟩))):=by
  have h1:Below w.heap.size w w7:=h7.trans (hO.below (B:=w.heap.size) fun k hk=>⟨by omega,fun e=>by have:=h9 _ e;omega⟩)
  exact Below.setCell (p:=⟨w3.heap.size+1,4,none⟩) (h1.trans (h5.mono h1.size)) (by show w.heap.size≤w3.heap.size+1;omega) _
 obtain ⟨sb,s1,s2,s3,s4,s5⟩:=hN.sh
 have s6:=s5.lt
 refine ⟨kc,kr,ks.out,w3.heap.size+1,p,w3.heap.size,sa,ar,v,ps,kc,F,u,_,rfl,k8,⟨?_,World.ownsRow_nil _ _ _ _⟩,?_,q0,rfl,by omega,fun k hk=>by have:=h9 k hk;omega,by omega,by omega,by omega,by omega,kp,ko,by omega,by omega,by omega,by omega,by omega,by omega,by omega,kf,sb,s1,fun k hk=>h8 k hk,by have:w5.heap.size≤sb:=s2;omega,by have:w5.heap.size≤sb:=s2;omega,s3,s4,(s5.below h5).keep fun k h1 h2=>hc k (by have:w5.heap.size≤sb:=s2;omega),rfl⟩
 · exact (hc _ (by omega)).trans ((h5.block _ (by omega)).trans ((hO.block _ (by omega) ko).trans k6))
 · exact (hc _ (by omega)).trans ((h5.block _ hz.lt).trans hz)
end Go.Proofs.YthcgahldacpolaaGreatDoor
