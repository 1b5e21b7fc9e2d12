import Derived.Test.YthcgahldacpolaaGreatDoorM47
import Derived.Test.YthcgahldacpolaaGreatDoorM28
import Derived.Test.YthcgahldacpolaaGreatDoorM46
import Derived.Lib.LaidTab
import Derived.Carry
set_option maxRecDepth 100000
set_option maxHeartbeats 8000000
namespace Go.Proofs.YthcgahldacpolaaGreatDoor
open Go.RowKit
variable {A:Arr} {F:Foot} {P:List Nat} {n k D L G g pb wb r p sa ar v sb t:Nat} {xs:Obs} {pg ob:Value} {w wk wj:World}
section
open Go.Deep Gf
theorem one_mem:∀ k,k < 16→(List.range 16).filter (fun i=>decide (i=k))=[k]:=by decide
theorem gone_one (hk:k < n) (hn:n≤16):mems (goneN n (2^k))=[k]:=by
 unfold mems
 rw [← one_mem k (by omega)]
 apply List.filter_congr
 intro i _
 rw [goneN_bit,Nat.testBit_two_pow]
 by_cases e:k=i
 · subst e;simp [hk]
 · have:¬ i=k:=fun h=>e h.symm
   simp [e,this]
theorem mf_local (hg:g < L) (j:Nat) (hj:j < D):mf (matL D L G) (D+g) j=if g*(D / L)≤j∧j < (g+1)*(D / L) then 1 else 0:=by
 unfold mf matL
 have e:((List.range D).map (dataL D) ++ (List.range L).map (localL D L) ++ (List.range G).map (globalL D)).getD (D+g) []=localL D L g:=by
  rw [List.append_assoc,List.getD_eq_getElem?_getD,List.getElem?_append_right (by simp)]
  simp only [List.length_map,List.length_range,Nat.add_sub_cancel_left]
  rw [List.getElem?_append_left (by simpa using hg)]
  simp [hg]
 rw [e]
 unfold localL
 simp [hj]
theorem ck_at (hg:g < L+G) (j:Nat):(cks D L G).m g j=if j < D then mf (matL D L G) (D+g) j else if j=D+g then 1 else 0:=by
 show (if g < L+G then _ else _)=_
 rw [if_pos hg]
theorem tell_one (h0:D % L=0) (hk:k < D+L+G):∃ C,tells (cks D L G) [k]=some C:=by
 have h4:D / L*L=D:=Nat.div_mul_cancel (Nat.dvd_of_mod_eq_zero h0)
 have h5:∃ r,r < L+G∧(cks D L G).m r k≠0:=by
  by_cases h3:k < D
  · have hs:0 < D / L:=Nat.pos_of_ne_zero fun e=>by rw [e] at h4;omega
    have hg:k / (D / L) < L:=by rw [Nat.div_lt_iff_lt_mul hs,Nat.mul_comm];omega
    refine ⟨k / (D / L),by omega,?_⟩
    rw [ck_at (by omega),if_pos h3,mf_local hg k h3,if_pos]
    · decide
    · have h1:=Nat.div_add_mod k (D / L)
      have h2:=Nat.mod_lt k hs
      rw [Nat.mul_comm] at h1
      rw [Nat.add_mul,Nat.one_mul]
      omega
  · refine ⟨k - D,by omega,?_⟩
    rw [ck_at (by omega),if_neg h3,if_pos (by omega)]
    decide
 obtain ⟨r,hr,h6⟩:=h5
 have e:tells (cks D L G) [k]=tell (cks D L G) k:=rfl
 rw [e]
 unfold tell
 cases hs:spareAt (cks D L G) k with
 | some r'=>exact ⟨_,rfl⟩
 | none=>
  exfalso
  unfold spareAt at hs
  rw [List.find?_eq_none] at hs
  have:=hs r (List.mem_range.2 hr)
  apply this
  have:(cks D L G).told≤r:=Nat.zero_le _
  simp [this,h6]
end
section
open Go.Deep Gf
structure RpS (w wk:World) (pb wb r p sa ar v sb D L G t:Nat) (pg ob:Value) (P:List Nat) (xs:Obs) (A:Arr) (F:Foot):Prop where
 par:wk.heap[pb]?=some (.cells #[.int .i64 (D:Int),.int .i64 (L:Int),.int .i64 (G:Int)] 23 (0,0))
 arr:wk.cell? ⟨wb,3,none⟩=some (.pointer (some ⟨p,0,none⟩))
 str:wk.cell? ⟨wb,4,none⟩=some (.pointer (some ⟨sa,0,none⟩))
 box:Boxed wk sa 54 (.pointer (some ⟨ar,0,none⟩))
 live:Live wk ar v p (sb+1+1+1) D L G t pg ob P xs A F
 sh:ShAt wk sb 0
 pbG:w.heap.size≤pb
 pbF:∀ k,F.has p A.n k→pb < k
 Fr:∀ k,F.has p A.n k→k < r
 pbw:pb < wb
 wbF:¬ F.has p A.n wb
 wbs:wb < sb
 rs:r < sb
 rsa:r < sa
 psv:sb+1+1+1 < v
 var:v < ar
 base:Below w.heap.size w wk
 glob:globalLaid w
 hv:hvLaid w
 tab:tabLaid w
 room:3≤w.heap.size
theorem RpS.below (h:RpS w wk pb wb r p sa ar v sb D L G t pg ob P xs A F) (hb:Below wk.heap.size wk wj):RpS w wj pb wb r p sa ar v sb D L G t pg ob P xs A F:=
 ⟨(hb.block _ (Array.getElem?_eq_some_iff.1 h.par).1).trans h.par,(hb.cell (block_lt_of_cell h.arr)).trans h.arr,(hb.cell (block_lt_of_cell h.str)).trans h.str,(hb.block _ h.box.lt).trans h.box,h.live.below hb,h.sh.below hb,h.pbG,h.pbF,h.Fr,h.pbw,h.wbF,h.wbs,h.rs,h.rsa,h.psv,h.var,h.base.trans (hb.mono h.base.size),h.glob,h.hv,h.tab,h.room⟩
theorem box_ne_arc {f:Nat} {x:Value} {off:Bool} (h1:Boxed w sa 54 x) (h2:ArcAt w ar v D L G t f n pg ob off):sa≠ar:=fun e=>by
 subst e
 have q1:w.heap[sa]?=some (.cells #[x] 54 (0,0)):=h1
 have q2:w.heap[sa]?=some (.cells (arcA v D L G t f n pg ob off) 98 (0,0)):=h2
 rw [q1] at q2
 injection q2 with q3
 injection q3 with _ q4
 exact absurd q4 (by decide)
theorem RpS.cells (h:RpS w wk pb wb r p sa ar v sb D L G t pg ob P xs A F):wk.cell? ⟨pb,0,none⟩=some (.int .i64 D)∧wk.cell? ⟨pb,1,none⟩=some (.int .i64 L)∧wk.cell? ⟨pb,2,none⟩=some (.int .i64 G):=by
 have h':=h.par
 simp [World.cell?,h']
theorem RpS.glob' (h:RpS w wk pb wb r p sa ar v sb D L G t pg ob P xs A F):globalLaid wk:=by
 have hg:w.cell? ⟨0,0,none⟩=_:=h.glob
 have:(0:Nat) < w.heap.size:=by have:=h.room;omega
 exact (h.base.cell (p:=⟨0,0,none⟩) this).trans hg
theorem RpS.next {pg' ob':Value} {P':List Nat} {B:Arr} (h:RpS w wk pb wb r p sa ar v sb D L G t pg ob P xs A F) (hn:B.n=A.n) (hl:Live wj ar v p (sb+1+1+1) D L G t pg' ob' P' xs B F) (hO:Outside (fun j=>j=ar∨F.has p A.n j) wk wj):RpS w wj pb wb r p sa ar v sb D L G t pg' ob' P' xs B F:=by
 have ha:=h.sh.lt
 have h0:=h.var
 have h4:=h.psv
 have h5:=h.pbw
 have h6:=h.wbs
 have hc:=h.rs
 have h7:=h.rsa
 have hk:∀ k,k < wk.heap.size→k≠ar→¬ F.has p A.n k→wj.heap[k]?=wk.heap[k]?:=fun k h1 h2 h3=>hO.block k h1 (fun q=>q.elim h2 h3)
 have he:=h.live.arc.lt
 have h8:=box_ne_arc h.box h.live.arc
 refine ⟨(hk _ (Array.getElem?_eq_some_iff.1 h.par).1 (by omega) (fun q=>by have:=h.pbF _ q;omega)).trans h.par,?_,?_,(hk _ h.box.lt h8 (fun q=>by have:=h.Fr _ q;omega)).trans h.box,hl,h.sh.keep fun k h1 h2=>hk k (by omega) (by omega) (fun q=>by have:=h.Fr _ q;omega),h.pbG,by rw [hn];exact h.pbF,by rw [hn];exact h.Fr,h.pbw,by rw [hn];exact h.wbF,h.wbs,h.rs,h.rsa,h.psv,h.var,?_,h.glob,h.hv,h.tab,h.room⟩
 · exact (World.cell?_of_block (hk wb (by omega) (by omega) h.wbF)).trans h.arr
 · exact (World.cell?_of_block (hk wb (by omega) (by omega) h.wbF)).trans h.str
 · have h9:=h.pbG
   exact h.base.trans (hO.below (B:=w.heap.size) fun k hk=>⟨by have:=h.base.size;omega,fun q=>by
    rcases q with q | q
    · omega
    · have:=h.pbF k q;omega⟩)
theorem RpS.lame {d:Nat} (h:RpS w wk pb wb r p sa ar v sb D L G t pg ob P xs A F) (hd:d < A.n) (hA:ArrAt wj p (A.setLost d true) F) (hO:Outside (F.has p A.n) wk wj) :
 Lame wj ar v p sb D L G t d pg ob P xs A F∧Boxed wj sa 54 (.pointer (some ⟨ar,0,none⟩))∧wj.cell? ⟨wb,4,none⟩=some (.pointer (some ⟨sa,0,none⟩))∧Below w.heap.size w wj:=by
 have hl:=h.live
 have hn:=hl.disk.n
 have hs:=hl.par.s
 have h8:=h.rs
 have h4:=h.rsa
 have h9:=h.sh.lt
 have h5:=h.pbG
 have h6:=h.pbw
 have h7:=h.wbs
 have h0:=h.room
 have h3:KpS (fun k=>ar < k∧¬ F.has p A.n k) wk wj:=⟨hO.size,fun k hk q=>hO.block k hk q.2⟩
 obtain ⟨C,hC⟩:=tell_one (G:=G) hl.par.div (show d < D+L+G by omega)
 refine ⟨⟨hl.arc.keep (hO.block _ hl.arc.lt hl.nar),hl.vol.turn hl.free hO hA,hl.free,hl.nar,hl.fit,hl.par,hl.disk,hl.pgs.keep h3,hl.cat.keep h3,hl.nb,hl.turn,h.sh.keep fun k h1 h2=>hO.block k (by omega) (fun q=>by have:=h.Fr _ q;omega),fun k hk=>by have:=h.Fr k hk;omega,by omega,h.psv,h.var,hd,⟨C,by rw [gone_one (by omega) hs];exact hC⟩,hl.rootOk⟩,(hO.block _ h.box.lt (fun q=>by have:=h.Fr _ q;omega)).trans h.box,(World.cell?_of_block (hO.block wb (by omega) h.wbF)).trans h.str,?_⟩
 exact h.base.trans (hO.below (B:=w.heap.size) fun k hk=>⟨by have:=h.base.size;omega,fun q=>by have:=h.pbF k q;omega⟩)
theorem RpS.start {w2:World} {e:Ending} (h:BgPost w2 D L G 20 0 e wk) (h0:w2.heap[pb]?=some (.cells #[.int .i64 (D:Int),.int .i64 (L:Int),.int .i64 (G:Int)] 23 (0,0))) (ha:w.heap.size≤pb) (hb:Below w.heap.size w w2) (hg:globalLaid w) (hv:hvLaid w) (ht:tabLaid w) (hK:3≤w.heap.size) :
 ∃ wb r p sa ar v sb pg A F,e=.returned (.tuple #[.pointer (some ⟨wb,0,none⟩),.bool true])∧RpS w wk pb wb r p sa ar v sb D L G 1 pg (.slice none 0 0) [2] [] A F:=by
 obtain ⟨wb,p,r,sa,ar,v,ps,cache,F,pg,A,rfl,hW,hR,hB,hl,hh,hp,hF,hr,hi,h1,h2,h3,h4,h5,h6,h7,h8,h9,hj,he,hc,sb,rfl,s2,s3,s4,s5,s6,s7,rfl⟩:=h
 have hf:=(Array.getElem?_eq_some_iff.1 h0).1
 obtain ⟨_,_,_,c3,c4,_⟩:=hW.cells
 have hz:=hb.size
 exact ⟨wb,r,p,sa,ar,v,sb,pg,A,F,rfl,⟨(hc.block _ hf).trans h0,c3,c4,hB,hl,s7,ha,fun k hk=>by have:=hF k hk;omega,s2,by omega,h3,s3,s4,he,s5,s6,hb.trans (hc.mono hz),hg,hv,ht,hK⟩⟩
theorem replaces_any (a b c dr:Int) (w:World) (hg:globalLaid w) (hv:hvLaid w) (ht:tabLaid w) (hK:3≤w.heap.size) :
 Calls Tryz.prog 3 #[.int .i64 a,.int .i64 b,.int .i64 c,.int .i64 dr] w fun e w'=>e=.returned (.bool true)∧Below w.heap.size w w':=by
 have HG:=hide3 hg hv ht
 clear hg hv ht
 go_enter Tryz.func3,Tryz.ntmps3
 go_wp2_with fail
 refine (few_any a b c w).mono ?_
 rintro e w1 ⟨D,L,G,rfl,hP,q5,hq⟩
 obtain ⟨w2,hs⟩:∃ w2,w1.alloc (.cells #[.int .i64 (D:Nat),.int .i64 (L:Nat),.int .i64 (G:Nat)] 23)=w2:=⟨_,rfl⟩
 have h2:Below w.heap.size w w2:=by rw [← hs];exact hq.alloc hq.size _
 have h3:w2.heap[w1.heap.size]?=some (.cells #[.int .i64 (D:Int),.int .i64 (L:Int),.int .i64 (G:Int)] 23 (0,0)):=by rw [← hs];exact blk_alloc_new _ _
 have hr:=hq.size
 obtain ⟨hg,hv,ht⟩:=HG.out
 have hx:=begin_any (nb:=20) hP (by omega) (by omega) 0 (hv.below h2 hv.lt) (ht.keep (h2.block _ ht.lt)) (Nat.le_trans hK h2.size)
 rw [show ((20:Nat):Int)=20 from rfl] at hx
 have k0:w2.cell? ⟨w1.heap.size,0,none⟩=some (.int .i64 (D:Int)):=by simp [World.cell?,h3]
 have k1:w2.cell? ⟨w1.heap.size,1,none⟩=some (.int .i64 (L:Int)):=by simp [World.cell?,h3]
 have k2:w2.cell? ⟨w1.heap.size,2,none⟩=some (.int .i64 (G:Int)):=by simp [World.cell?,h3]
 have H1:=hide4 hP h2 h3 hr
 have HB:=hide hx
 clear hP hq h2 h3 hx hg hv ht
 go_wp2_with fail
 clear hs k0 k1 k2
 refine HB.out.mono ?_
 rintro e w3 ⟨c0,_,kp,k9⟩
 obtain rfl:=kp (by simp)
 obtain ⟨hP,h2,h3,hr⟩:=H1.out
 obtain ⟨hg,hv,ht⟩:=HG.out
 obtain ⟨wb,r,p,sa,ar,v,sb,pg,A,F,rfl,h9⟩:=RpS.start k9 h3 hr h2 hg hv ht hK
 have ha:=sReplace h9.box h9.live dr
 have cs:=h9.str
 have hy:=hide2 h9 ha
 clear hP h2 h3 hr hg hv ht k9 h9 ha
 go_wp2_with fail
 refine hy.out.2.mono ?_
 rintro e w4 ⟨x,t',pg',ob',P',xs',B,rfl,_,hz,ka,q6,k5,rfl,rfl,⟨rs,kb⟩,h0⟩
 have hc:=hy.out.1.next ka hz k5
 have q7:=hy.out.1.live.disk.n
 obtain ⟨hP,_⟩:=H1.out
 have hd:=hP.d
 have kr:=hP.l4
 have q8:=hP.g
 by_cases ks:0≤dr∧dr < (D:Int)+(L:Int)+(G:Int)
 · obtain rfl:x=.nilIface:=by
    rcases h0 with ⟨_,_,q⟩ | ⟨q,_⟩
    · exact q
    · omega
   obtain ⟨d,rfl⟩:∃ d:Nat,dr=d:=⟨dr.toNat,by omega⟩
   have kc:d < B.n:=by rw [ka];omega
   have H4:=hide2 hc kc
   clear hc hz k5 kb h0 kc cs hP
   go_wp2_with fail
   refine (tell_nil w4).mono ?_
   rintro e w5 ⟨rfl,he⟩
   have h4:=H4.out.1.below he
   obtain ⟨q0,q1,q2⟩:=h4.cells
   have kv:¬ (d:Int) < 0:=by omega
   have kx:¬ (d:Int)≥(D:Int)+(L:Int)+(G:Int):=by omega
   have hf:=shards_sz (D:Int) (L:Int) (G:Int) w5 ⟨by omega,by omega⟩ ⟨by omega,by omega⟩ ⟨by omega,by omega⟩
   have H5:=hide h4
   clear h4 he
   go_wp2_with fail
   refine hf.mono ?_
   rintro e w6 ⟨rfl,hh⟩
   have kd:Below w5.heap.size w5 w6:=by rw [hh];exact (Below.refl _ w5).alloc (Nat.le_refl _) _
   have k6:=H5.out.below kd
   clear hh kd hf q0 q1 q2
   obtain ⟨q0,q1,q2⟩:=k6.cells
   have H6:=hide k6
   clear k6
   have hi:d < 16:=by have:=H1.out.1.s;omega
   obtain ⟨pd,k7⟩:∃ pd:Nat,2^d=pd:=⟨_,rfl⟩
   have ky:IntKind.u64.wrap ((2:Int)^d)=(pd:Int):=by
    have h1:2^d < 65536:=two_lt hi
    have e:((2:Int)^d)=((2^d:Nat):Int):=by rw [Int.natCast_pow];rfl
    rw [e,IntKind.wrap_u64,k7]
    rw [k7] at h1
    omega
   have ke:=fun w'=>theirs_any (D:Int) (L:Int) (G:Int) w'
   have kf:=fun w'=>rdecodable_right D L G pd H1.out.1.r H1.out.1.d H1.out.1.l1 H1.out.1.l4 H1.out.1.g H1.out.1.div (by have:=two_lt hi;omega) w'
   have HC:=hide2 ke kf
   clear ke kf k7
   go_upto_region 9 with fail
   go_cut [14] from 44 to 48 (fun v14 wx=>∃ bb,v14=.bool bb∧Below w6.heap.size w6 wx)
   case first=>
    go_region_with (first
     | (go_at_call 10;refine (HC.out.1 _).mono ?_;rintro e w7 ⟨rfl,kg⟩;have H7:=hide (show Below w6.heap.size w6 w7 from ((Below.refl _ w6).drew).trans kg);clear kg)
     | (go_at_call 9;refine (HC.out.2 _).mono ?_;rintro e w8 ⟨bb,rfl,_,h7⟩;have H8:=hide (H7.out.trans (h7.mono H7.out.size));clear h7))
    all_goals (go_wp2_with fail;go_meet;case rel=>exact ⟨bb,rfl,H8.out⟩)
   case rest=>
    rename World=>w8
    clear q0 q1 q2 ky
    obtain ⟨bb,rfl,h7⟩:=hcut
    have h5:=H6.out.below h7
    cases bb with
    | false=>
     have H8:=hide h5.base
     clear h5 h7
     go_wp2
     go_ret
     exact ⟨rfl,H8.out⟩
    | true=>
     have ca:=h5.arr
     have kh:=lose_any h5.live.vol.arr h5.live.fit d H4.out.2
     have H8:=hide2 h5 kh
     clear h5 kh h7
     go_wp2_with fail
     refine H8.out.2.mono ?_
     rintro e w9 ⟨rfl,ki,kj⟩
     obtain ⟨kk,km,cs,h8⟩:=H8.out.1.lame H4.out.2 ki kj
     have kn:=sReplace_lame km kk
     have hj:∀ k,(k=ar∨MvL v p sb B F k)→w.heap.size≤k:=fun k q=>by
      have q0:=H8.out.1.pbG
      have q1:=H8.out.1.pbw
      have q2:=H8.out.1.wbs
      have q3:=H8.out.1.psv
      have q4:=H8.out.1.var
      rcases q with q | q | q | q | q
      · omega
      · omega
      · omega
      · omega
      · have:=H8.out.1.pbF k q;omega
     have H9:=hide3 kn h8 hj
     clear kk km h8 kn ki kj hj ca
     go_wp2_with fail
     refine H9.out.1.mono ?_
     rintro e w10 ⟨rfl,hm⟩
     obtain ⟨_,h8,hj⟩:=H9.out
     have h6:Below w.heap.size w w10:=h8.trans (hm.below (B:=w.heap.size) fun k hk=>⟨by have:=h8.size;omega,fun q=>by have:=hj k q;omega⟩)
     have ko:globalLaid w10:=by
      have hg:w.cell? ⟨0,0,none⟩=_:=HG.out.1
      exact (h6.cell (p:=⟨0,0,none⟩) (show 0 < w.heap.size by omega)).trans hg
     have hn:=tell_errno 11 w10 ko
     have k8:=hide2 h6 hn
     clear hm h8 hj h6 ko hn cs
     go_wp2_with fail
     refine k8.out.2.mono ?_
     rintro e w11 ⟨rfl,hp⟩
     have kz:=hide (k8.out.1.trans (hp.mono k8.out.1.size))
     clear hp
     go_wp2
     go_ret
     exact ⟨rfl,kz.out⟩
 · obtain rfl:x=.iface 37 (.int .i64 11):=by
    rcases h0 with ⟨q1,q2,_⟩ | ⟨_,q⟩
    · omega
    · exact q
   have hn:=tell_errno 11 w4 hc.glob'
   have H4:=hide2 hc hn
   clear hc hz k5 kb h0 cs hP hn
   go_wp2_with fail
   refine H4.out.2.mono ?_
   rintro e w5 ⟨rfl,he⟩
   have h4:=H4.out.1.below he
   obtain ⟨q0,q1,q2⟩:=h4.cells
   have hf:=shards_sz (D:Int) (L:Int) (G:Int) w5 ⟨by omega,by omega⟩ ⟨by omega,by omega⟩ ⟨by omega,by omega⟩
   have H5:=hide2 h4.base hf
   clear h4 he hf
   by_cases q9:dr < 0
   · go_wp2
     go_ret
     exact ⟨rfl,H5.out.1⟩
   · have kx:(D:Int)+(L:Int)+(G:Int)≤dr:=by omega
     clear ks
     go_wp2_with fail
     refine H5.out.2.mono ?_
     rintro e w6 ⟨rfl,hh⟩
     have H6:=hide (show Below w.heap.size w w6 by rw [hh];exact H5.out.1.alloc H5.out.1.size _)
     clear hh
     go_wp2
     go_ret
     exact ⟨rfl,H6.out⟩
end
section
open Go.ChangeShapes Go.WideShapes
abbrev laids3:List (String×DataW Unit):=[("math/bits.deBruijn64tab",Rows.laid_math_bits_deBruijn64tab),("errors.errorType",Rows.laid_errors_errorType),("stripes/record.halves",Rows.laid_stripes_record_halves)]
def tabZ3:List Int:=(List.range 64).map fun j=>((Lib.deBruijn64tab.getD j 0:Nat):Int)
def halvesZ:List Int:=halvesL.map fun (x:Nat)=>(x:Int)
theorem Tryz.bt3:Tryz.prog.globalNamed "math/bits.deBruijn64tab"=some 1:=by kernel_rfl
theorem Tryz.bt3Type:(Tryz.prog.globals[1]?).map (·.type)=some 196:=by kernel_rfl
theorem Tryz.bt3Cells:Tryz.prog.cellsOf 196=64:=by kernel_rfl
theorem Tryz.byteCells3:Tryz.prog.cellsOf 5=1:=by kernel_rfl
theorem Tryz.hv3:Tryz.prog.globalNamed "stripes/record.halves"=some 2:=by kernel_rfl
theorem Tryz.hv3Type:(Tryz.prog.globals[2]?).map (·.type)=some 265:=by kernel_rfl
theorem Tryz.hv3Cells:Tryz.prog.cellsOf 265=16:=by kernel_rfl
theorem Tryz.u32Cells3:Tryz.prog.cellsOf 245=1:=by kernel_rfl
theorem tab_data3:(Rows.laid_math_bits_deBruijn64tab:DataW Unit)=Lib.tabData .u8 tabZ3:=by rfl
theorem hv_data3:(Rows.laid_stripes_record_halves:DataW Unit)=Lib.tabData .u32 halvesZ:=by rfl
theorem laid_tail {P:Program} {x:String×DataW Unit} {r:List (String×DataW Unit)} (h:laidMet P (x :: r) w):laidMet P r w:=by
 obtain ⟨ps,hv,h1,h0⟩:=h
 obtain ⟨n,d⟩:=x
 obtain ⟨g,t,cs,fuel,p,q,_,_,_,_,hq,rfl⟩:=hv
 exact ⟨q,hq,List.Nodup.sublist (List.sublist_append_right _ _) h1,fun b off hm=>h0 b off (List.mem_append_right _ hm)⟩
theorem all_of_laid {W:World} (h:laidMetH Tryz.prog laids3 W):globalLaid W∧tabLaid W∧hvLaid W∧3≤W.heap.size:=by
 have h':laidMet Tryz.prog [("math/bits.deBruijn64tab",Rows.laid_math_bits_deBruijn64tab),("stripes/record.halves",Rows.laid_stripes_record_halves)] W∧handlesMet Tryz.prog [("errors.errorType",Rows.laid_errors_errorType)] W:=h
 have hg:globalLaid W:=handle_of_laid (show laidMetH Tryz.prog [("errors.errorType",Rows.laid_errors_errorType)] W from ⟨⟨[],rfl,List.nodup_nil,fun b off hb=>by cases hb⟩,h'.2⟩)
 have hd:=h'.1
 have h0:=laid_tail hd
 rw [tab_data3] at hd
 rw [hv_data3] at h0
 have ht:=Lib.tabIs_of_head Tryz.bt3 Tryz.bt3Type Tryz.underlying196 Tryz.underlying5 Tryz.byteCells3 Tryz.bt3Cells hd
 have hh:=Lib.tabIs_of_head Tryz.hv3 Tryz.hv3Type Tryz.underlying265 Tryz.underlying245 Tryz.u32Cells3 Tryz.hv3Cells h0
 have h5:tabLaid W:=fun j hj=>by
  have:=ht.cell Tryz.bt3 j (by simpa [tabZ3] using hj)
  rw [this]
  unfold tabZ3
  simp [hj]
 have h6:hvLaid W:=fun j hj=>by
  have hl:halvesL.length=16:=rfl
  have:=hh.cell Tryz.hv3 j (by unfold halvesZ;rw [List.length_map,hl];exact hj)
  rw [this]
  unfold halvesZ
  congr 2
  rw [List.getD_eq_getElem?_getD,List.getD_eq_getElem?_getD,List.getElem?_map,List.getElem?_eq_getElem (by omega)]
  rfl
 refine ⟨hg,h5,h6,?_⟩
 have h1:=block_lt_of_cell (h5 0 (by decide))
 have h2:=block_lt_of_cell (h6 0 (by decide))
 have h3:1 < W.heap.size:=h1
 have h4:2 < W.heap.size:=h2
 omega
noncomputable def laidWorld3 (os:Os):World:=
 { World.holding Tryz.prog os ⟨#[],#[],[]⟩ with heap:=(((World.holding Tryz.prog os ⟨#[],#[],[]⟩).heap.modify 0 fun | .cells _ t frozen=>.cells #[.iface 110 (.agg #[.pointer (some ⟨3,29,none⟩)])] t frozen | o=>o).modify 1 fun | .cells _ t frozen=>.cells (tabZ3.map fun z=>Value.int .u8 z).toArray t frozen | o=>o).modify 2 fun | .cells _ t frozen=>.cells (halvesZ.map fun z=>Value.int .u32 z).toArray t frozen | o=>o }
theorem laidWorld3_met (os:Os) (args:Array Value):laidMetH Tryz.prog laids3 ((laidWorld3 os).forCall (fun _ _=>0) ⟨#[],args,[]⟩).memory:=
 laidMetH_of_parts (laidMet_of_run' 8 (by kernel_rfl) (by kernel_rfl)) (by kernel_rfl)
end
end Go.Proofs.YthcgahldacpolaaGreatDoor
