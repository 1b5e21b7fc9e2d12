import Derived.Test.YthcgahldacpolaaGreatDoorM45
set_option maxRecDepth 100000
set_option maxHeartbeats 8000000
namespace Go.Proofs.YthcgahldacpolaaGreatDoor
open Go.RowKit Go.Deep Gf
variable {A:Arr} {F:Foot} {P:List Nat} {ar v p sb D L G t d:Nat} {xs:Obs} {pg ob:Value} {w:World}
theorem replace_lame (h:Lame w ar v p sb D L G t d pg ob P xs A F) :
 Calls Tryz.prog 22 #[.pointer (some ⟨ar,0,none⟩),.int .i64 d] w fun e w'=>e=.returned (.iface 37 (.int .i64 11))∧Outside (MvL v p sb A F) w w':=by
 have h5:=h.rok
 have h6:2≤A.nb:=by have:=h.disk.room;omega
 have hp:=h.par
 have hn:=h.disk.n
 have h0:d < 16:=by have:=h.dn;have:=hp.s;omega
 refine replace_lost h.arc h.vol.vol hp.d hp.l4 hp.g d (2^d) (by have:=h.dn;omega) (by have:=Nat.two_pow_pos d;omega) (fun Y=>Outside (MvL v p sb A F) w Y) ?_
 intro W q hb hq h7
 have hW:=h.below hb
 have hc:=h.vol.vol.lt
 have h8:=h.var
 have he:=h.shv
 have h9:∀ k,F.has p A.n k→k < w.heap.size:=fun k hk=>h.vol.arr.has_lt hk
 obtain ⟨R,hM⟩:=mends_lost hW (q:=q) (fun c=>by
  rcases c with c | c | c | c
  · omega
  · omega
  · omega
  · have:=h9 q c;omega) h5 h6
 have h3:∀ k,ar < k→¬ F.has p A.n k→¬ MvL v p sb A F k:=fun k h1 h2 c=>by
  rcases c with c | c | c | c
  · omega
  · omega
  · omega
  · exact h2 c
 have h4:∀ {u:Value} {l:List Nat},Ints (fun k=>ar < k∧¬ F.has p A.n k) W u l→Ints (fun k=>k < W.heap.size∧¬ MvL v p sb A F k) W u l:=fun ⟨ao,c,q1,q2,q3⟩=>⟨ao,c,q1,q2,fun hl=>by obtain ⟨b,off,r1,r2,r3,r4⟩:=q3 hl;exact ⟨b,off,r1,⟨r3,h3 b r2.1 r2.2⟩,r3,r4⟩⟩
 have ha:Cat (fun k=>k < W.heap.size∧¬ MvL v p sb A F k) W ob xs.os:=by
  obtain ⟨ao,c,q1,q2,q3⟩:=hW.cat
  refine ⟨ao,c,q1,q2,fun hl=>?_⟩
  obtain ⟨b,off,r1,r2,r3,r4⟩:=q3 hl
  refine ⟨b,off,r1,⟨r3,h3 b r2.1 r2.2⟩,r3,fun i hi=>?_⟩
  obtain ⟨sv,t1,t2,t3,t4⟩:=r4 i hi
  exact ⟨sv,t1,t2,t3,h4 t4⟩
 refine (mend_any hM (A:=A.setLost d true) (ho:=0) ⟨by decide,hW.vol,⟨A.reads,rfl⟩,hW.sh⟩ hW.arc h7 (two_lt h0) hW.free (h4 hW.pgs) ha).mono ?_
 rintro e Y ⟨rfl,_,hO⟩
 exact ⟨rfl,(Outside.of_all hb _).trans hO⟩
theorem aReplace_lame (h:Lame w ar v p sb D L G t d pg ob P xs A F) :
 Calls Tryz.prog 14 #[.pointer (some ⟨ar,0,none⟩),.int .i64 d] w fun e w'=>e=.returned (.iface 37 (.int .i64 11))∧Outside (fun k=>k=ar∨MvL v p sb A F k) w w':=by
 have hq:∀ (fn:Fn) (first cap:Array Value) (w:World),(Instr.makeFunc fn first cap).run Tryz.prog w=.ok (.func fn first cap) w:=fun _ _ _ _=>rfl
 have hh:∀ (args:Array Value) (w:World),(callFunc 21 args).run Tryz.prog w=.ok (.enter 21 args) w:=enters_of Tryz.func21 (by kernel_rfl) rfl
 obtain ⟨w3,ha⟩:∃ w3,(w.alloc (.cells #[.pointer (some ⟨ar,0,none⟩)] 52)).alloc (.cells #[.int .i64 (d:Int)] 3)=w3:=⟨_,rfl⟩
 have h1:Boxed w3 w.heap.size 52 (.pointer (some ⟨ar,0,none⟩)):=by rw [← ha];exact (Boxed.new w _ _).alloc _
 have h2:Boxed w3 (w.heap.size+1) 3 (.int .i64 (d:Int)):=by
  have:=Boxed.new (w.alloc (.cells #[.pointer (some ⟨ar,0,none⟩)] 52)) 3 (.int .i64 (d:Int))
  rw [World.size_alloc] at this
  rw [← ha];exact this
 have h0:Below w.heap.size w w3:=by rw [← ha];exact ((Below.refl _ w).alloc (Nat.le_refl _) _).alloc (by simp) _
 have h5:∀ w1,Below w3.heap.size w3 w1→Calls Tryz.prog 21 #[.pointer (some ⟨w.heap.size,0,none⟩),.pointer (some ⟨w.heap.size+1,0,none⟩)] w1 fun e w'=>e=.returned (.iface 37 (.int .i64 11))∧Outside (MvL v p sb A F) w1 w':=fun w1 h4=>by
  have g1:=(show Boxed w1 w.heap.size 52 _ from (h4.block _ h1.lt).trans h1).cell
  have g2:=(show Boxed w1 (w.heap.size+1) 3 _ from (h4.block _ h2.lt).trans h2).cell
  have h6:Below w.heap.size w w1:=h0.trans (h4.mono h0.size)
  have hp:=replace_lame (h.below h6)
  clear h1 h2 h4 h6 ha h0
  go_enter Tryz.func21,Tryz.ntmps21
  go_wp2_with fail
  refine hp.mono ?_
  rintro e w2 ⟨rfl,hO⟩
  have H:=hide hO
  clear hO hp
  go_wp2
  go_ret
  exact ⟨rfl,H.out⟩
 have h3:=h.below h0
 have hi:∀ k,F.has p A.n k→k < w.heap.size:=fun k hk=>h.vol.arr.has_lt hk
 have hr:=h.vol.vol.lt
 have hs:=h.shv
 have hj:=h.var
 have hm:=h.arc.lt
 have hx:=h0.size
 have h7:∀ k,MvL v p sb A F k→k < w.heap.size∧k≠ar:=fun k c=>by
  rcases c with c | c | c | c
  · omega
  · omega
  · omega
  · exact ⟨hi k c,fun e=>h.nar (by rw [← e];exact c)⟩
 have hc:=arcPowered_ok 21 #[] #[.pointer (some ⟨w.heap.size,0,none⟩),.pointer (some ⟨w.heap.size+1,0,none⟩)] hh w3 ar _ h3.arc rfl
  (fun w1 x w2=>x=.iface 37 (.int .i64 11)∧Outside (MvL v p sb A F) w1 w2)
  (fun w1 h4 he=>(h5 w1 h4).mono (by
   rintro e w2 ⟨rfl,hO⟩
   have hf:=h3.arc.keep (h4.block _ h3.arc.lt)
   exact ⟨_,rfl,.inr ⟨11,by decide,rfl⟩,⟨rfl,hO⟩,hO.block _ (by omega) (fun c=>by have:=(h7 _ c).1;omega),_,hf.keep (hO.block _ hf.lt (fun c=>(h7 _ c).2 rfl)),rfl⟩))
 have c1:=h1.cell
 have H:=hide3 hc h0 h7
 clear hc h0 h5 h1 h2 h h3 h7
 go_enter Tryz.func14,Tryz.ntmps14
 go_wp2_with fail
 refine H.out.1.mono ?_
 rintro e w8 ⟨x,w1,w2,rfl,_,h4,he,⟨rfl,hO⟩,hg⟩
 have h8:Outside (fun k=>k=ar∨MvL v p sb A F k) w w8:=by
  obtain ⟨_,h0,h7⟩:=H.out
  have hz:=h0.size
  subst hg
  have h9:Outside (fun k=>k=ar∨k=w3.heap.size∨MvL v p sb A F k) w3 ((w2.setCell ⟨w3.heap.size,0,none⟩ (.iface 37 (.int .i64 11))).setCell ⟨ar,9,none⟩ (.bool false)):=((Outside.of_all h4 _).trans (hO.mono fun _ _ q=>.inr (.inr q))).trans ((Outside.setCell _ _ _ (.inr (.inl rfl))).trans (Outside.setCell _ _ _ (.inl rfl)))
  exact ⟨h9.os.trans h0.os,h9.tape.trans h0.tape,h9.output.trans h0.output,Nat.le_trans hz h9.size,fun k hk hn=>(h9.block k (by omega) (fun c=>by
   rcases c with c | c | c
   · exact hn (.inl c)
   · omega
   · exact hn (.inr c))).trans (h0.block k hk)⟩
 have H8:=hide h8
 clear h8 hO h4 he hg
 go_wp2
 go_ret
 exact ⟨rfl,H8.out⟩
theorem sReplace_lame {sa:Nat} (hs:Boxed w sa 54 (.pointer (some ⟨ar,0,none⟩))) (h:Lame w ar v p sb D L G t d pg ob P xs A F) :
 Calls Tryz.prog 6 #[.pointer (some ⟨sa,0,none⟩),.int .i64 d] w fun e w'=>e=.returned (.iface 37 (.int .i64 11))∧Outside (fun k=>k=ar∨MvL v p sb A F k) w w':=by
 have cs:=hs.cell
 have hc:=aReplace_lame h
 clear hs h
 go_enter Tryz.func6,Tryz.ntmps6
 go_wp2_with fail
 refine hc.mono ?_
 rintro e w8 ⟨rfl,hO⟩
 have H8:=hide hO
 clear hO hc
 go_wp2
 go_ret
 exact ⟨rfl,H8.out⟩
end Go.Proofs.YthcgahldacpolaaGreatDoor
