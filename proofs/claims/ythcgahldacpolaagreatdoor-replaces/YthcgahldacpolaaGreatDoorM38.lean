import Derived.Deep.CutRange
import Derived.Test.YthcgahldacpolaaGreatDoorM25
set_option maxRecDepth 100000
set_option maxHeartbeats 8000000
namespace Go.Proofs.YthcgahldacpolaaGreatDoor
open Go.RowKit Go.Deep
variable {a:Act} {ad:Addr} {A:Arr} {ops:Array Oper} {Q:Exit→Act→World→Prop} {F:Foot} {n:Int} {q d b p v D L G ps ho s l r g N gone sp:Nat} {Dn:Nat→Bool} {u:Value} {w w':World}
def beV (q:Nat):Value:=.iface 210 (.pointer (some ⟨q,0,none⟩))
def BeAt (w:World) (q d b:Nat) (n:Int):Prop:=w.heap[q]?=some (.cells #[.int .i64 d,.int .i64 b,.int .i64 n] 212 (0,0))
theorem BeAt.lt (h:BeAt w q d b n):q < w.heap.size:=(Array.getElem?_eq_some_iff.1 h).1
theorem BeAt.cell (h:BeAt w q d b n):w.cell? ⟨q,2,none⟩=some (.int .i64 n):=by
 have h':w.heap[q]?=_:=h
 simp [World.cell?,h']
theorem BeAt.new (w:World) (d b:Nat) (n:Int):BeAt (w.alloc (.cells #[.int .i64 d,.int .i64 b,.int .i64 n] 212)) w.heap.size d b n:=blk_alloc_new w _
theorem BeAt.below (h:BeAt w q d b n) (hb:Below w.heap.size w w'):BeAt w' q d b n:=(hb.block _ h.lt).trans h
theorem find_lost (h:ArrAt w p A F) (hf:A.fit) (d b:Nat) (hd:d < A.n) (hw:A.wait≠0) (hl:A.lost d=true) :
 Calls Tryz.prog 113 #[.pointer (some ⟨p,0,none⟩),.int .i64 d,.int .i64 b] w fun e w'=>e=.returned (.tuple #[.pointer none,beV w.heap.size])∧w'=w.alloc (.cells #[.int .i64 d,.int .i64 b,.int .i64 11] 212):=by
 obtain ⟨c0,c1,_,_⟩:=h.p_cells
 obtain ⟨d0,d1,d2,d3⟩:=h.drvs d hd
 rw [hl] at d0
 have hn:=hf.n
 have e1:¬ (d:Int) < 0:=by omega
 have e2:¬ (A.n:Int)≤(d:Int):=by omega
 have e2':(d:Int) < (A.n:Int):=by omega
 go_enter Tryz.func113,Tryz.ntmps113
 go_wp2
 go_ret2
 exact ⟨rfl,rfl⟩
def LdPost (w:World) (d b:Nat) (mk:Value→Value) (e:Ending) (w':World):Prop:=∃ q,e=.returned (mk (beV q))∧w.heap.size≤q∧BeAt w' q d b 11∧Below w.heap.size w w'
def LrPost (w:World) (d b:Nat) (mk:Value→Value) (e:Ending) (w':World):Prop:=e=.returned (mk (beV (w.heap.size+1)))∧BeAt w' (w.heap.size+1) d b 11∧Below w.heap.size w w'
theorem read_lost (h:ArrAt w p A F) (hf:A.fit) (d b:Nat) (hd:d < A.n) (hw:A.wait≠0) (hl:A.lost d=true) :
 Calls Tryz.prog 88 #[.pointer (some ⟨p,0,none⟩),.int .i64 d,.int .i64 b] w (LrPost w d b (fun x=>.tuple #[.agg (blkA zb),x])):=by
 have hz:=zeroBlk
 have h1:=h.alloc (.cells (blkA zb) 197)
 have h3:=BlkAt.new w zb
 have h2:Below w.heap.size w (w.alloc (.cells (blkA zb) 197)):=(Below.refl _ w).alloc (Nat.le_refl _) _
 obtain ⟨w1,h7⟩:∃ w1,w.alloc (.cells (blkA zb) 197)=w1:=⟨_,rfl⟩
 have h9:w1.heap.size=w.heap.size+1:=by rw [← h7];simp
 rw [h7] at h1 h3 h2
 have ha:(blkA zb).size=64:=by rw [blkA_size,zb_len]
 have hc:=find_lost h1 hf d b hd hw hl
 have H1:=hide2 h3 h2
 clear h h1 h3 h2
 go_enter Tryz.func88,Tryz.ntmps88
 go_wp2_with fail
 refine hc.mono ?_
 rintro e w2 ⟨rfl,h8⟩
 obtain ⟨h3,h2⟩:=H1.out
 have h4:BeAt w2 w1.heap.size d b 11:=by rw [h8];exact BeAt.new _ _ _ _
 have h0:Below w1.heap.size w1 w2:=by rw [h8];exact (Below.refl _ w1).alloc (Nat.le_refl _) _
 have h6:BlkAt w2 w.heap.size zb:=h3.keep (h0.block _ h3.lt)
 obtain ⟨q,hq⟩:∃ q,w1.heap.size=q:=⟨_,rfl⟩
 rw [hq] at h4 ⊢
 unfold beV
 have H2:=hide4 h4 h0 h6 hq
 clear h3 h2 h4 h0 h6 hq h8 hc h7
 go_wp2_with (refine bl_store rfl (.tmp 6) (.tmp 19) rfl w.heap.size zb zb rfl rfl H2.out.2.2.1 zb_len zb_len ?_)
 obtain ⟨h4,h0,h6,hq⟩:=H2.out
 have he:=h6.setRow zb
 have hg:=blk_loadVar he zb_len
 refine bodyPost_ret (v:=.tuple #[.agg (blkA zb),.iface 210 (.pointer (some ⟨q,0,none⟩))]) (results_cell_slot Tryz.results88 _ _ _ _ _ rfl rfl hg) rfl ?_
 have hh:=H1.out.2.size
 have hi:w.heap.size < w1.heap.size:=H1.out.1.lt
 have h5:∀ j,j≠w.heap.size→j < w2.heap.size→(w2.setRow w.heap.size (blkA zb)).heap[j]?=w2.heap[j]?:=fun j hj hl=>(grown_setRow' w2 w.heap.size (blkA zb)).block j hl (fun e=>by cases e;exact hj rfl)
 obtain rfl:q=w.heap.size+1:=by omega
 refine ⟨rfl,(h5 _ (by omega) h4.lt).trans h4,?_⟩
 exact (H1.out.2.trans (h0.mono hh)).trans ⟨rfl,rfl,rfl,by simp [World.setRow],fun j hj=>h5 j (by omega) (by have:=h0.size;omega)⟩
theorem write_lost (h:ArrAt w p A F) (hf:A.fit) (d b:Nat) (hd:d < A.n) (hw:A.wait≠0) (hl:A.lost d=true) (l:List Nat) (h4:l.length=64) :
 Calls Tryz.prog 85 #[.pointer (some ⟨p,0,none⟩),.int .i64 d,.int .i64 b,.agg (blkA l)] w (LdPost w d b (fun x=>x)):=by
 have h1:=h.alloc (.cells (blkA l) 197)
 have h2:Below w.heap.size w (w.alloc (.cells (blkA l) 197)):=(Below.refl _ w).alloc (Nat.le_refl _) _
 obtain ⟨w1,h6⟩:∃ w1,w.alloc (.cells (blkA l) 197)=w1:=⟨_,rfl⟩
 rw [h6] at h1 h2
 have h7:(blkA l).size=64:=by rw [blkA_size,h4]
 have hc:=find_lost h1 hf d b hd hw hl
 have H1:=hide h2
 clear h h1 h2
 go_enter Tryz.func85,Tryz.ntmps85
 go_wp2_with fail
 refine hc.mono ?_
 rintro e w2 ⟨rfl,h5⟩
 have h3:BeAt w2 w1.heap.size d b 11:=by rw [h5];exact BeAt.new _ _ _ _
 have h0:Below w1.heap.size w1 w2:=by rw [h5];exact (Below.refl _ w1).alloc (Nat.le_refl _) _
 obtain ⟨q,hq⟩:∃ q,w1.heap.size=q:=⟨_,rfl⟩
 rw [hq] at h3 ⊢
 unfold beV
 have H2:=hide3 h3 h0 hq
 clear h3 h0 hq h5 hc h6
 go_wp2
 go_ret
 obtain ⟨h3,h0,hq⟩:=H2.out
 exact ⟨q,rfl,by have:=H1.out.size;omega,h3,H1.out.trans (h0.mono H1.out.size)⟩
theorem eql_block (q:Nat) (m:Int) (w:World):(binOp .eql 29 (beV q) (.iface 37 (.int .i64 m))).run Tryz.prog w=.ok (.bool false) w:=by
 have h2:∀ d,(Op.equalIn (d+1) 29 (.iface 210 (.pointer (some ⟨q,0,none⟩))) (.iface 37 (.int .i64 m))).run Tryz.prog w=.ok false w:=fun d=>by
  rw [Op.equalIn]
  simp [Sem.run_bind,run_underlying Tryz.underlying29,Result.andThen_ok]
 have he:=h2 9999
 unfold beV
 simp only [binOp]
 simp [Op.equal,Op.maxDepth,he]
theorem unwrap_any (h:BeAt w q d b n):Calls Tryz.prog 214 #[.pointer (some ⟨q,0,none⟩)] w fun e w'=>e=.returned (.iface 37 (.int .i64 n))∧w'=w:=by
 have c:=h.cell
 go_enter Tryz.func214,Tryz.ntmps214
 go_wp2
 go_ret
 exact ⟨rfl,rfl⟩
theorem is2_block (h:BeAt w q d b n) (m:Int):Calls Tryz.prog 46 #[beV q,.iface 37 (.int .i64 m),.bool true] w fun e w'=>e=.returned (.bool (n == m))∧w'=w:=by
 have h0:=eql_block q m
 have h1:=eql_errno n m
 have b1:∀ w:World,(Instr.typeAssert (beV q) 29 145 true).run Tryz.prog w=.ok (.tuple #[.nilIface,.bool false]) w:=fun w=>run_typeAssert_lacksB Tryz.underlying145 (by kernel_rfl) (by kernel_rfl) _ _ w
 have b2:∀ w:World,(Instr.typeAssert (beV q) 29 118 true).run Tryz.prog w=.ok (.tuple #[beV q,.bool true]) w:=fun w=>run_typeAssert_hasB Tryz.underlying118 (by kernel_rfl) _ _ w
 have a1:∀ w:World,(Instr.typeAssert (.iface 37 (.int .i64 n)) 29 145 true).run Tryz.prog w=.ok (.tuple #[.nilIface,.bool false]) w:=fun w=>run_typeAssert_lacksB Tryz.underlying145 (by kernel_rfl) (by kernel_rfl) _ _ w
 have a2:∀ w:World,(Instr.typeAssert (.iface 37 (.int .i64 n)) 29 118 true).run Tryz.prog w=.ok (.tuple #[.nilIface,.bool false]) w:=fun w=>run_typeAssert_lacksB Tryz.underlying118 (by kernel_rfl) (by kernel_rfl) _ _ w
 have a3:∀ w:World,(Instr.typeAssert (.iface 37 (.int .i64 n)) 29 119 true).run Tryz.prog w=.ok (.tuple #[.nilIface,.bool false]) w:=fun w=>run_typeAssert_lacksB Tryz.underlying119 (by kernel_rfl) (by kernel_rfl) _ _ w
 have mU:∀ w:World,(Go.method 432 210 (.pointer (some ⟨q,0,none⟩)) "Unwrap").run Tryz.prog w=.ok (214,.pointer (some ⟨q,0,none⟩)) w:=fun w=>by kernel_rfl
 have hu:=unwrap_any h
 unfold beV at h0 b1 b2 ⊢
 clear h
 cases h2:(n == m)
 · rw [h2] at h1
   go_enter Tryz.func46,Tryz.ntmps46
   go_wp2
   refine wp_loop_rounds 2 ?_
   rw [rounds_succ]
   go_wp2_with fail
   refine hu.mono ?_
   rintro e w' ⟨rfl,rfl⟩
   go_wp2
   rw [rounds_succ]
   go_wp2
   go_ret
   exact ⟨rfl,rfl⟩
 · rw [h2] at h1
   go_enter Tryz.func46,Tryz.ntmps46
   go_wp2
   refine wp_loop_rounds 2 ?_
   rw [rounds_succ]
   go_wp2_with fail
   refine hu.mono ?_
   rintro e w' ⟨rfl,rfl⟩
   go_wp2
   rw [rounds_succ]
   go_wp2
   go_ret
   exact ⟨rfl,rfl⟩
theorem is_block (h:BeAt w q d b n) (m:Int):Calls Tryz.prog 32 #[beV q,.iface 37 (.int .i64 m)] w fun e w'=>e=.returned (.bool (n == m))∧w'=w:=by
 have ht:=Tryz.typeOfE (.int .i64 m)
 have h0 := @run_callFunc_extern Tryz.prog 37 _ Extern.ReflectliteType.typeOf Tryz.func37 (by kernel_rfl) (by kernel_rfl) (by kernel_rfl) (by kernel_rfl)
 have mC:∀ (h:Value) (w:World),(Go.method 432 110 (.agg #[h]) "Comparable").run Tryz.prog w=.ok (201,.agg #[h]) w:=fun h w=>by kernel_rfl
 have hC:∀ w:World,(callFunc 201 #[.agg #[.pointer (some ⟨3,37,none⟩)]]).run Tryz.prog w=.ok (.value (.bool true)) w:=fun w=>by kernel_rfl
 have hi:=is2_block h m
 unfold beV at hi ⊢
 clear h
 generalize (n == m)=nm at hi ⊢
 go_enter Tryz.func32,Tryz.ntmps32
 go_wp2_with fail
 refine hi.mono ?_
 rintro e w' ⟨rfl,rfl⟩
 go_wp2
 go_ret
 exact ⟨rfl,rfl⟩
theorem stop_block (h:BeAt w q d b n) (hn:n≠13):Calls Tryz.prog 87 #[beV q] w fun e w'=>e=.returned (.tuple #[])∧w'=w:=by
 have hi:=is_block h 13
 rw [show (n == 13)=false from by simpa using hn] at hi
 unfold beV at hi ⊢
 clear h
 go_enter Tryz.func87,Tryz.ntmps87
 go_wp2_with fail
 refine hi.mono ?_
 rintro e w' ⟨rfl,rfl⟩
 go_wp2
 first | go_end0 | skip
 exact ⟨rfl,rfl⟩
theorem volRead_lost (hV:VolAt w v p D L G ps ho) (h:ArrAt w p A F) (hf:A.fit) (d b:Nat) (hd:d < A.n) (hw:A.wait≠0) (hl:A.lost d=true) :
 Calls Tryz.prog 71 #[.pointer (some ⟨v,0,none⟩),.int .i64 d,.int .i64 b] w (LrPost w d b (fun x=>.tuple #[.nilIface,x])):=by
 obtain ⟨c0,_⟩:=hV.cells
 have hz:=zeroBlk
 have hg:(blkA zb).size=64:=by rw [blkA_size,zb_len]
 have hc:=read_lost h hf d b hd hw hl
 clear hV h
 go_enter Tryz.func71,Tryz.ntmps71
 go_wp2_with fail
 refine hc.mono ?_
 rintro e w1 ⟨rfl,h6,h7⟩
 obtain ⟨q,h3⟩:∃ q,w.heap.size+1=q:=⟨_,rfl⟩
 have hq:w.heap.size≤q:=by omega
 rw [h3] at h6 ⊢
 have hh:=hide h3
 clear h3
 have h8:=BlkAt.new w1 zb
 have h0:BeAt (w1.alloc (.cells (blkA zb) 197)) q d b 11:=h6.below ((Below.refl _ w1).alloc (Nat.le_refl _) _)
 have h4:Below w.heap.size w (w1.alloc (.cells (blkA zb) 197)):=h7.alloc h7.size _
 have h5:q≠w1.heap.size:=by have:=h6.lt;omega
 have hi:=h7.size
 unfold beV
 have H1:=hide5 h8 h0 h4 h5 hq
 clear hc h6 h7 h8 h0 h4 h5 hq c0
 go_wp2_with (refine bl_store rfl (.tmp 8) (.tmp 20) rfl w1.heap.size zb zb rfl rfl H1.out.1 zb_len zb_len ?_)
 obtain ⟨h8,h0,h4,h5,hq⟩:=H1.out
 have h2:∀ j,j≠w1.heap.size→j < (w1.alloc (.cells (blkA zb) 197)).heap.size→((w1.alloc (.cells (blkA zb) 197)).setRow w1.heap.size (blkA zb)).heap[j]?=(w1.alloc (.cells (blkA zb) 197)).heap[j]?:=fun j hj hl=>(grown_setRow' _ w1.heap.size (blkA zb)).block j hl (fun e=>by cases e;exact hj rfl)
 have h1:BeAt ((w1.alloc (.cells (blkA zb) 197)).setRow w1.heap.size (blkA zb)) q d b 11:=(h2 q h5 h0.lt).trans h0
 have h9:Below w.heap.size w ((w1.alloc (.cells (blkA zb) 197)).setRow w1.heap.size (blkA zb)):=h4.trans ⟨rfl,rfl,rfl,by simp [World.setRow],fun j hj=>h2 j (by omega) (by simp;omega)⟩
 obtain ⟨w3,he⟩:∃ w3,(w1.alloc (.cells (blkA zb) 197)).setRow w1.heap.size (blkA zb)=w3:=⟨_,rfl⟩
 rw [he] at h1 h9 ⊢
 have ha:=stop_block h1 (by decide)
 unfold beV at ha
 have H3:=hide3 h1 h9 hq
 clear h8 h0 h4 h5 hq h2 h1 h9 he
 refine ha.mono ?_
 rintro e w4 ⟨rfl,rfl⟩
 clear ha
 go_wp2
 go_ret2
 have h3:=hh.out
 subst h3
 exact ⟨rfl,H3.out.1,H3.out.2.1⟩
theorem volWrite_by (hV:VolAt w v p D L G ps ho) (d b:Nat) (r:Rec) (hm:Makes r) (hv:hvLaid w) (R:Value→World→Prop)
 (h2:∀ w1,Below w.heap.size w w1→Calls Tryz.prog 85 #[.pointer (some ⟨p,0,none⟩),.int .i64 d,.int .i64 b,.agg (blkA r.blk)] w1 fun e w2=>∃ x,e=.returned x∧R x w2)
 (h4:∀ x w2,R x w2→Calls Tryz.prog 87 #[x] w2 fun e w'=>e=.returned (.tuple #[])∧w'=w2) :
 Calls Tryz.prog 67 #[.pointer (some ⟨v,0,none⟩),.int .i64 d,.int .i64 b,recV r] w fun e w'=>∃ x,e=.returned x∧R x w':=by
 obtain ⟨c0,_⟩:=hV.cells
 obtain ⟨rv,h5⟩:∃ rv,recV r=rv:=⟨_,rfl⟩
 have h1:=hm w.drew (hv.below ((Below.refl _ w).drew) hv.lt)
 simp only [h5] at h1 ⊢
 obtain ⟨ba,h6⟩:∃ ba,blkA r.blk=ba:=⟨_,rfl⟩
 simp only [h6] at h1 h2
 have h0:∀ w',Below w.heap.size w w'→w'.cell? ⟨v,0,none⟩=some (.pointer (some ⟨p,0,none⟩)):=fun w' hb=>(hb.cell (p:=⟨v,0,none⟩) hV.lt).trans c0
 have H:=hide3 h2 h4 h0
 clear h2 h4 hV h5 h6 hm hv h0
 go_enter Tryz.func67,Tryz.ntmps67
 go_upto_region 1 with fail
 go_cut [9] from 10 to 21 (fun v9 wx=>R v9 wx)
 case first=>
  go_region_with (first
   | (go_at_call 86;refine h1.mono ?_;rintro e w1 ⟨rfl,h3⟩;have c1:=H.out.2.2 w1 (((Below.refl _ w).drew).trans h3);have H1:=hide (((Below.refl _ w).drew).trans h3);clear h3)
   | (go_at_call 85;refine (H.out.1 w1 H1.out).mono ?_;rintro e w2 ⟨x,rfl,hR⟩;have H2:=hide hR;clear hR))
  all_goals (go_wp2_with fail;go_meet;case rel=>exact H2.out)
 case rest=>
  have H2:=hide hcut
  clear hcut h1 c0
  go_wp2_with fail
  refine (H.out.2.1 _ _ H2.out).mono ?_
  rintro e w' ⟨rfl,rfl⟩
  go_wp2
  go_ret
  exact ⟨_,rfl,H2.out⟩
theorem volWrite_lost (hV:VolAt w v p D L G ps ho) (h:ArrAt w p A F) (hf:A.fit) (d b:Nat) (hd:d < A.n) (hw:A.wait≠0) (hl:A.lost d=true) (r:Rec) (hr:r.ok) (hm:Makes r) (hv:hvLaid w) :
 Calls Tryz.prog 67 #[.pointer (some ⟨v,0,none⟩),.int .i64 d,.int .i64 b,recV r] w (LdPost w d b (fun x=>x)):=by
 refine (volWrite_by hV d b r hm hv (fun x w2=>∃ q,x=beV q∧w.heap.size≤q∧BeAt w2 q d b 11∧Below w.heap.size w w2) (fun w1 h0=>(write_lost (h.below h0 (Nat.le_refl _)) hf d b hd hw hl r.blk (blk_len hr)).mono ?_) ?_).mono ?_
 · rintro e w2 ⟨q,rfl,hq,h4,h5⟩
   exact ⟨_,rfl,q,rfl,Nat.le_trans h0.size hq,h4,h0.trans (h5.mono h0.size)⟩
 · rintro x w2 ⟨q,rfl,_,h4,_⟩
   exact stop_block h4 (by decide)
 · rintro e w2 ⟨x,rfl,q,rfl,h1,h2,h3⟩
   exact ⟨q,rfl,h1,h2,h3⟩
section
open Go.Shelf Gf
def BSt (s:Nat) (w:World) (ad:Addr) (u:Value) (Dn:Nat→Bool) (w':World):Prop:=w'=if Dn s=true then w.drew.setCell ad u else w.drew
theorem BSt_upd (h:BSt s w ad u Dn w') (i:Nat) (hi:s≠i):BSt s w ad u (upd Dn i) w':=by unfold BSt;rw [upd_ne hi];exact h
theorem BSt_cell (h:BSt s w ad u Dn w') {a:Addr} (hg:a.block≠ad.block) {v:Value} (hc:w.cell? a=some v):w'.cell? a=some v:=by
 unfold BSt at h
 subst h
 split
 · exact (World.cell?_of_block (blk_setCell_other _ _ _ _ hg)).trans hc
 · exact hc
theorem BSt_same (h:BSt s w ad u Dn w') (hn:Dn s=false):w'=w.drew:=by
 unfold BSt at h
 rwa [if_neg (by rw [hn];decide)] at h
theorem BSt_done (h:BSt s w ad u Dn w') (hn:Dn s=true):w'=w.drew.setCell ad u:=by
 unfold BSt at h
 rwa [if_pos hn] at h
noncomputable def RFh:Array Oper:=((Tryz.f62.body.bind (rgf · 13))).getD #[]
def shFh:List (Op×Option Nat×List Nat):=[(Op.load 127 (.tmp 2),some 76,[]),
 (Op.nilCheck (.tmp 76),some 77,[0]),
 (Op.fieldAddr 149 (.tmp 77) 0,some 78,[1]),
 (Op.load 91 (.tmp 78),some 79,[2]),
 (Op.load 127 (.tmp 2),some 80,[]),
 (Op.nilCheck (.tmp 80),some 81,[4]),
 (Op.fieldAddr 149 (.tmp 81) 0,some 82,[5]),
 (Op.load 91 (.tmp 82),some 83,[6]),
 (Op.nilCheck (.tmp 83),some 84,[7]),
 (Op.fieldAddr 108 (.tmp 84) 3,some 85,[8]),
 (Op.load 101 (.tmp 85),some 86,[9]),
 (Op.move (.tmp 4),some 87,[]),
 (Op.call { callee:=Callee.value (Operand.func 34),args:=#[.tmp 86,.tmp 87],argTypes:=#[101,3] },some 88,[10,11]),
 (Op.nilCheck (.tmp 79),some 89,[3,0,1,2,3,4,5,6,7,8,9,10,11,12]),
 (Op.fieldAddr 108 (.tmp 89) 3,some 90,[13,0,1,2,3,4,5,6,7,8,9,10,11,12]),
 (Op.store 101 (.tmp 90) (.tmp 88),none,[14,12,12,0,1,2,3,4,5,6,7,8,9,10,11,12])]
theorem RFh_shape:RegShape RFh 76 91 shFh:=regShape (by kernel_rfl) (by kernel_rfl)
def vsFh (r v x hol:Nat):List Value:=[.pointer (some ⟨r,0,none⟩),.pointer (some ⟨r,0,none⟩),.pointer (some ⟨r,0,none⟩),.pointer (some ⟨v,0,none⟩),.pointer (some ⟨r,0,none⟩),.pointer (some ⟨r,0,none⟩),.pointer (some ⟨r,0,none⟩),.pointer (some ⟨v,0,none⟩),.pointer (some ⟨v,0,none⟩),.pointer (some ⟨v,5,none⟩),.int .u64 hol,.int .i64 x,.int .u64 ((hol|||2^x:Nat):Int),.pointer (some ⟨v,0,none⟩),.pointer (some ⟨v,5,none⟩),undef]
theorem fetch_region13 {n:Nat} {h4:Nat} (hV:VolAt w v p D L G ps h4) (h2:Boxed w q 127 (.pointer (some ⟨r,0,none⟩))) (hr:RdAt w r v b g N gone sp) (x:Nat) (hx:x≤60) (hc:h4 < 18446744073709551616) (h8:q≠v) (h9:r≠v) (h7:RFh=ops) (hm:a.tmps.size=100)
 (e2:a.eval (.tmp 2)=.pointer (some ⟨q,0,none⟩)) (e4:a.eval (.tmp 4)=.int .i64 x)
 (hQ:∀ (w':World),w'=w.drew.setCell ⟨v,5,none⟩ (.int .u64 ((h4|||2^x:Nat):Int))→Q .normal (Act.putFrom a 76 [.pointer (some ⟨r,0,none⟩),.pointer (some ⟨r,0,none⟩),.pointer (some ⟨r,0,none⟩),.pointer (some ⟨v,0,none⟩),.pointer (some ⟨r,0,none⟩),.pointer (some ⟨r,0,none⟩),.pointer (some ⟨r,0,none⟩),.pointer (some ⟨v,0,none⟩),.pointer (some ⟨v,0,none⟩),.pointer (some ⟨v,5,none⟩),.int .u64 h4,.int .i64 x,.int .u64 ((h4|||2^x:Nat):Int),.pointer (some ⟨v,0,none⟩),.pointer (some ⟨v,5,none⟩)]) w'):(Code.region 13 ops true).wpIn (Fence.wide.inRound l) n Tryz.prog Q a w:=by
 subst h7
 have cq:=h2.cell
 have cr:=hr.cells.1
 have c5:=hV.cells.2.2.2.2.2
 have f5:w.frozen? ⟨v,5,none⟩=false:=by
  have h':w.heap[v]?=_:=hV
  simp [World.frozen?,h']
 refine region_factsI (by kernel_rfl) RFh_shape a w (by omega) (fun i u _=>u=(vsFh r v x h4).getD i undef) (BSt 15 w ⟨v,5,none⟩ (.int .u64 ((h4|||2^x:Nat):Int))) rfl ?_ ?_
 · intro i hi
   match i,hi with
   | 0,_=>
    intro o a' w' Dn hg ho h0 hk h5 h6 h1 hB h3
    have u0:a'.eval (.tmp 2)=.pointer (some ⟨q,0,none⟩):=(hk.slot 2 (by omega)).trans e2
    have cc:=BSt_cell hB (a:=⟨q,0,none⟩) h8 cq
    exact opI_val (v:=.pointer (some ⟨r,0,none⟩)) (by simp only [execOp,show o.op=Op.load 127 (.tmp 2) from ho,u0];go_simp) (by rw [ho];intro c h;cases h) h0 ⟨BSt_upd hB 0 (by decide),rfl,kq⟩
   | 1,_=>
    intro o a' w' Dn hg ho h0 hk h5 h6 h1 hB h3
    have u0:a'.eval (.tmp 76)=.pointer (some ⟨r,0,none⟩):=h3 0 (h1 0 (by decide))
    exact opI_val (run_op_nil ho u0 w') (by rw [ho];intro c h;cases h) h0 ⟨BSt_upd hB 1 (by decide),rfl,kq⟩
   | 2,_=>
    intro o a' w' Dn hg ho h0 hk h5 h6 h1 hB h3
    have u0:a'.eval (.tmp 77)=.pointer (some ⟨r,0,none⟩):=h3 1 (h1 1 (by decide))
    exact opI_val (v:=.pointer (some ⟨r,0,none⟩)) (by simp only [execOp,show o.op=Op.fieldAddr 149 (.tmp 77) 0 from ho,u0];go_simp) (by rw [ho];intro c h;cases h) h0 ⟨BSt_upd hB 2 (by decide),rfl,kq⟩
   | 3,_=>
    intro o a' w' Dn hg ho h0 hk h5 h6 h1 hB h3
    have u0:a'.eval (.tmp 78)=.pointer (some ⟨r,0,none⟩):=h3 2 (h1 2 (by decide))
    have cc:=BSt_cell hB (a:=⟨r,0,none⟩) h9 cr
    exact opI_val (v:=.pointer (some ⟨v,0,none⟩)) (by simp only [execOp,show o.op=Op.load 91 (.tmp 78) from ho,u0];go_simp) (by rw [ho];intro c h;cases h) h0 ⟨BSt_upd hB 3 (by decide),rfl,kq⟩
   | 4,_=>
    intro o a' w' Dn hg ho h0 hk h5 h6 h1 hB h3
    have u0:a'.eval (.tmp 2)=.pointer (some ⟨q,0,none⟩):=(hk.slot 2 (by omega)).trans e2
    have cc:=BSt_cell hB (a:=⟨q,0,none⟩) h8 cq
    exact opI_val (v:=.pointer (some ⟨r,0,none⟩)) (by simp only [execOp,show o.op=Op.load 127 (.tmp 2) from ho,u0];go_simp) (by rw [ho];intro c h;cases h) h0 ⟨BSt_upd hB 4 (by decide),rfl,kq⟩
   | 5,_=>
    intro o a' w' Dn hg ho h0 hk h5 h6 h1 hB h3
    have u0:a'.eval (.tmp 80)=.pointer (some ⟨r,0,none⟩):=h3 4 (h1 4 (by decide))
    exact opI_val (run_op_nil ho u0 w') (by rw [ho];intro c h;cases h) h0 ⟨BSt_upd hB 5 (by decide),rfl,kq⟩
   | 6,_=>
    intro o a' w' Dn hg ho h0 hk h5 h6 h1 hB h3
    have u0:a'.eval (.tmp 81)=.pointer (some ⟨r,0,none⟩):=h3 5 (h1 5 (by decide))
    exact opI_val (v:=.pointer (some ⟨r,0,none⟩)) (by simp only [execOp,show o.op=Op.fieldAddr 149 (.tmp 81) 0 from ho,u0];go_simp) (by rw [ho];intro c h;cases h) h0 ⟨BSt_upd hB 6 (by decide),rfl,kq⟩
   | 7,_=>
    intro o a' w' Dn hg ho h0 hk h5 h6 h1 hB h3
    have u0:a'.eval (.tmp 82)=.pointer (some ⟨r,0,none⟩):=h3 6 (h1 6 (by decide))
    have cc:=BSt_cell hB (a:=⟨r,0,none⟩) h9 cr
    exact opI_val (v:=.pointer (some ⟨v,0,none⟩)) (by simp only [execOp,show o.op=Op.load 91 (.tmp 82) from ho,u0];go_simp) (by rw [ho];intro c h;cases h) h0 ⟨BSt_upd hB 7 (by decide),rfl,kq⟩
   | 8,_=>
    intro o a' w' Dn hg ho h0 hk h5 h6 h1 hB h3
    have u0:a'.eval (.tmp 83)=.pointer (some ⟨v,0,none⟩):=h3 7 (h1 7 (by decide))
    exact opI_val (run_op_nil ho u0 w') (by rw [ho];intro c h;cases h) h0 ⟨BSt_upd hB 8 (by decide),rfl,kq⟩
   | 9,_=>
    intro o a' w' Dn hg ho h0 hk h5 h6 h1 hB h3
    have u0:a'.eval (.tmp 84)=.pointer (some ⟨v,0,none⟩):=h3 8 (h1 8 (by decide))
    exact opI_val (v:=.pointer (some ⟨v,5,none⟩)) (by simp only [execOp,show o.op=Op.fieldAddr 108 (.tmp 84) 3 from ho,u0];go_simp) (by rw [ho];intro c h;cases h) h0 ⟨BSt_upd hB 9 (by decide),rfl,kq⟩
   | 10,_=>
    intro o a' w' Dn hg ho h0 hk h5 h6 h1 hB h3
    have u0:a'.eval (.tmp 85)=.pointer (some ⟨v,5,none⟩):=h3 9 (h1 9 (by decide))
    have he:Dn 15=false:=by
     cases e:Dn 15 with
     | false=>rfl
     | true=>exact absurd ((h6 15 e).2 10 (by decide)) (by rw [h5];decide)
    have hf:=BSt_same hB he
    have cc:w'.cell? ⟨v,5,none⟩=some (.int .u64 h4):=by rw [hf];exact c5
    exact opI_val (v:=.int .u64 h4) (by simp only [execOp,show o.op=Op.load 101 (.tmp 85) from ho,u0];go_simp) (by rw [ho];intro c h;cases h) h0 ⟨BSt_upd hB 10 (by decide),rfl,kq⟩
   | 11,_=>
    intro o a' w' Dn hg ho h0 hk h5 h6 h1 hB h3
    have u0:a'.eval (.tmp 4)=.int .i64 x:=(hk.slot 4 (by omega)).trans e4
    exact opI_val (run_op_move ho u0 w') (by rw [ho];intro c h;cases h) h0 ⟨BSt_upd hB 11 (by decide),rfl,kq⟩
   | 12,_=>
    intro o a' w' Dn hg ho h0 hk h5 h6 h1 hB h3
    have u0:a'.eval (.tmp 86)=.int .u64 h4:=h3 10 (h1 10 (by decide))
    have u1:a'.eval (.tmp 87)=.int .i64 x:=h3 11 (h1 11 (by decide))
    refine opI_call (f:=34) (args:=#[.int .u64 h4,.int .i64 x]) (w1:=w') (by simp only [execOp,show o.op=Op.call { callee:=Callee.value (Operand.func 34),args:=#[.tmp 86,.tmp 87],argTypes:=#[101,3] } from ho];go_simp;exact ⟨by simpa [Act.eval] using u0,by simpa [Act.eval] using u1⟩) (by rw [ho];intro c h;cases h) h0 (with_any h4 x hc hx w') ?_
    rintro e w'' ⟨rfl,rfl⟩
    exact ⟨_,rfl,BSt_upd hB 12 (by decide),rfl,kq⟩
   | 13,_=>
    intro o a' w' Dn hg ho h0 hk h5 h6 h1 hB h3
    have u0:a'.eval (.tmp 79)=.pointer (some ⟨v,0,none⟩):=h3 3 (h1 3 (by decide))
    exact opI_val (run_op_nil ho u0 w') (by rw [ho];intro c h;cases h) h0 ⟨BSt_upd hB 13 (by decide),rfl,kq⟩
   | 14,_=>
    intro o a' w' Dn hg ho h0 hk h5 h6 h1 hB h3
    have u0:a'.eval (.tmp 89)=.pointer (some ⟨v,0,none⟩):=h3 13 (h1 13 (by decide))
    exact opI_val (v:=.pointer (some ⟨v,5,none⟩)) (by simp only [execOp,show o.op=Op.fieldAddr 108 (.tmp 89) 3 from ho,u0];go_simp) (by rw [ho];intro c h;cases h) h0 ⟨BSt_upd hB 14 (by decide),rfl,kq⟩
   | 15,_=>
    intro o a' w' Dn hg ho h0 hk h5 h6 h1 hB h3
    have u0:a'.eval (.tmp 90)=.pointer (some ⟨v,5,none⟩):=h3 14 (h1 14 (by decide))
    have u1:a'.eval (.tmp 88)=.int .u64 ((h4|||2^x:Nat):Int):=h3 12 (h1 12 (by decide))
    have hw:=BSt_same hB h5
    subst hw
    have cc:w.drew.cell? ⟨v,5,none⟩=some (.int .u64 h4):=c5
    have ff:w.drew.frozen? ⟨v,5,none⟩=false:=f5
    obtain ⟨z,hz⟩:∃ z,((h4|||2^x:Nat):Int)=z:=⟨_,rfl⟩
    rw [hz] at u1
    refine opI_skip (w':=w.drew.setCell ⟨v,5,none⟩ (.int .u64 z)) (by simp only [execOp,show o.op=Op.store 101 (.tmp 90) (.tmp 88) from ho,u0,u1];go_simp) (by rw [ho];intro c h;cases h) ⟨?_,rfl,kq⟩
    unfold BSt;rw [if_pos upd_eq,hz]
   | n+16,hn=>exact absurd hn (by show ¬ n+16 < 16;omega)
 · rintro a' w' hh ha ⟨Dn,hj,hB⟩ h3
   have e:a'=Act.putFrom a 76 [.pointer (some ⟨r,0,none⟩),.pointer (some ⟨r,0,none⟩),.pointer (some ⟨r,0,none⟩),.pointer (some ⟨v,0,none⟩),.pointer (some ⟨r,0,none⟩),.pointer (some ⟨r,0,none⟩),.pointer (some ⟨r,0,none⟩),.pointer (some ⟨v,0,none⟩),.pointer (some ⟨v,0,none⟩),.pointer (some ⟨v,5,none⟩),.int .u64 h4,.int .i64 x,.int .u64 ((h4|||2^x:Nat):Int),.pointer (some ⟨v,0,none⟩),.pointer (some ⟨v,5,none⟩)]:=hh.out _ rfl (by omega) (fun i hi=>?_)
   · rw [e];exact hQ w' (BSt_done hB (hj 15 (by decide)))
   · match i,hi with
     | 0,_=>exact h3 0 (by decide)
     | 1,_=>exact h3 1 (by decide)
     | 2,_=>exact h3 2 (by decide)
     | 3,_=>exact h3 3 (by decide)
     | 4,_=>exact h3 4 (by decide)
     | 5,_=>exact h3 5 (by decide)
     | 6,_=>exact h3 6 (by decide)
     | 7,_=>exact h3 7 (by decide)
     | 8,_=>exact h3 8 (by decide)
     | 9,_=>exact h3 9 (by decide)
     | 10,_=>exact h3 10 (by decide)
     | 11,_=>exact h3 11 (by decide)
     | 12,_=>exact h3 12 (by decide)
     | 13,_=>exact h3 13 (by decide)
     | 14,_=>exact h3 14 (by decide)
     | n+15,hn=>exact absurd hn (by simp)
noncomputable def RFg:Array Oper:=((Tryz.f62.body.bind (rgf · 14))).getD #[]
def shFg:List (Op×Option Nat×List Nat):=[(Op.load 127 (.tmp 2),some 91,[]),
 (Op.load 127 (.tmp 2),some 92,[]),
 (Op.nilCheck (.tmp 92),some 93,[1]),
 (Op.fieldAddr 149 (.tmp 93) 3,some 94,[2]),
 (Op.load 101 (.tmp 94),some 95,[3]),
 (Op.move (.tmp 4),some 96,[]),
 (Op.call { callee:=Callee.value (Operand.func 34),args:=#[.tmp 95,.tmp 96],argTypes:=#[101,3] },some 97,[4,5]),
 (Op.nilCheck (.tmp 91),some 98,[0,0,1,2,3,4,5,6]),
 (Op.fieldAddr 149 (.tmp 98) 3,some 99,[7,0,1,2,3,4,5,6]),
 (Op.store 101 (.tmp 99) (.tmp 97),none,[8,6,6,0,1,2,3,4,5,6])]
theorem RFg_shape:RegShape RFg 91 100 shFg:=regShape (by kernel_rfl) (by kernel_rfl)
def vsFg (r x gone:Nat):List Value:=[.pointer (some ⟨r,0,none⟩),.pointer (some ⟨r,0,none⟩),.pointer (some ⟨r,0,none⟩),.pointer (some ⟨r,3,none⟩),.int .u64 gone,.int .i64 x,.int .u64 ((gone|||2^x:Nat):Int),.pointer (some ⟨r,0,none⟩),.pointer (some ⟨r,3,none⟩),undef]
theorem fetch_region14 {n:Nat} (h2:Boxed w q 127 (.pointer (some ⟨r,0,none⟩))) (hr:RdAt w r v b g N gone sp) (x:Nat) (hx:x≤60) (h9:gone < 18446744073709551616) (h7:q≠r) (h6:RFg=ops) (hh:a.tmps.size=100)
 (e2:a.eval (.tmp 2)=.pointer (some ⟨q,0,none⟩)) (e4:a.eval (.tmp 4)=.int .i64 x)
 (hQ:∀ (w':World),w'=w.drew.setCell ⟨r,3,none⟩ (.int .u64 ((gone|||2^x:Nat):Int))→Q .normal (Act.putFrom a 91 [.pointer (some ⟨r,0,none⟩),.pointer (some ⟨r,0,none⟩),.pointer (some ⟨r,0,none⟩),.pointer (some ⟨r,3,none⟩),.int .u64 gone,.int .i64 x,.int .u64 ((gone|||2^x:Nat):Int),.pointer (some ⟨r,0,none⟩),.pointer (some ⟨r,3,none⟩)]) w'):(Code.region 14 ops true).wpIn (Fence.wide.inRound l) n Tryz.prog Q a w:=by
 subst h6
 have cq:=h2.cell
 have c3:=hr.cells.2.2.2.1
 have f3:w.frozen? ⟨r,3,none⟩=false:=by
  have h':w.heap[r]?=_:=hr
  simp [World.frozen?,h']
 refine region_factsI (by kernel_rfl) RFg_shape a w (by omega) (fun i u _=>u=(vsFg r x gone).getD i undef) (BSt 9 w ⟨r,3,none⟩ (.int .u64 ((gone|||2^x:Nat):Int))) rfl ?_ ?_
 · intro i hi
   match i,hi with
   | 0,_=>
    intro o a' w' Dn hg ho h0 hk h4 h5 h1 hB h3
    have u0:a'.eval (.tmp 2)=.pointer (some ⟨q,0,none⟩):=(hk.slot 2 (by omega)).trans e2
    have cc:=BSt_cell hB (a:=⟨q,0,none⟩) h7 cq
    exact opI_val (v:=.pointer (some ⟨r,0,none⟩)) (by simp only [execOp,show o.op=Op.load 127 (.tmp 2) from ho,u0];go_simp) (by rw [ho];intro c h;cases h) h0 ⟨BSt_upd hB 0 (by decide),rfl,kq⟩
   | 1,_=>
    intro o a' w' Dn hg ho h0 hk h4 h5 h1 hB h3
    have u0:a'.eval (.tmp 2)=.pointer (some ⟨q,0,none⟩):=(hk.slot 2 (by omega)).trans e2
    have cc:=BSt_cell hB (a:=⟨q,0,none⟩) h7 cq
    exact opI_val (v:=.pointer (some ⟨r,0,none⟩)) (by simp only [execOp,show o.op=Op.load 127 (.tmp 2) from ho,u0];go_simp) (by rw [ho];intro c h;cases h) h0 ⟨BSt_upd hB 1 (by decide),rfl,kq⟩
   | 2,_=>
    intro o a' w' Dn hg ho h0 hk h4 h5 h1 hB h3
    have u0:a'.eval (.tmp 92)=.pointer (some ⟨r,0,none⟩):=h3 1 (h1 1 (by decide))
    exact opI_val (run_op_nil ho u0 w') (by rw [ho];intro c h;cases h) h0 ⟨BSt_upd hB 2 (by decide),rfl,kq⟩
   | 3,_=>
    intro o a' w' Dn hg ho h0 hk h4 h5 h1 hB h3
    have u0:a'.eval (.tmp 93)=.pointer (some ⟨r,0,none⟩):=h3 2 (h1 2 (by decide))
    exact opI_val (v:=.pointer (some ⟨r,3,none⟩)) (by simp only [execOp,show o.op=Op.fieldAddr 149 (.tmp 93) 3 from ho,u0];go_simp) (by rw [ho];intro c h;cases h) h0 ⟨BSt_upd hB 3 (by decide),rfl,kq⟩
   | 4,_=>
    intro o a' w' Dn hg ho h0 hk h4 h5 h1 hB h3
    have u0:a'.eval (.tmp 94)=.pointer (some ⟨r,3,none⟩):=h3 3 (h1 3 (by decide))
    have ha:Dn 9=false:=by
     cases e:Dn 9 with
     | false=>rfl
     | true=>exact absurd ((h5 9 e).2 4 (by decide)) (by rw [h4];decide)
    have hc:=BSt_same hB ha
    have cc:w'.cell? ⟨r,3,none⟩=some (.int .u64 gone):=by rw [hc];exact c3
    exact opI_val (v:=.int .u64 gone) (by simp only [execOp,show o.op=Op.load 101 (.tmp 94) from ho,u0];go_simp) (by rw [ho];intro c h;cases h) h0 ⟨BSt_upd hB 4 (by decide),rfl,kq⟩
   | 5,_=>
    intro o a' w' Dn hg ho h0 hk h4 h5 h1 hB h3
    have u0:a'.eval (.tmp 4)=.int .i64 x:=(hk.slot 4 (by omega)).trans e4
    exact opI_val (run_op_move ho u0 w') (by rw [ho];intro c h;cases h) h0 ⟨BSt_upd hB 5 (by decide),rfl,kq⟩
   | 6,_=>
    intro o a' w' Dn hg ho h0 hk h4 h5 h1 hB h3
    have u0:a'.eval (.tmp 95)=.int .u64 gone:=h3 4 (h1 4 (by decide))
    have u1:a'.eval (.tmp 96)=.int .i64 x:=h3 5 (h1 5 (by decide))
    refine opI_call (f:=34) (args:=#[.int .u64 gone,.int .i64 x]) (w1:=w') (by simp only [execOp,show o.op=Op.call { callee:=Callee.value (Operand.func 34),args:=#[.tmp 95,.tmp 96],argTypes:=#[101,3] } from ho];go_simp;exact ⟨by simpa [Act.eval] using u0,by simpa [Act.eval] using u1⟩) (by rw [ho];intro c h;cases h) h0 (with_any gone x h9 hx w') ?_
    rintro e w'' ⟨rfl,rfl⟩
    exact ⟨_,rfl,BSt_upd hB 6 (by decide),rfl,kq⟩
   | 7,_=>
    intro o a' w' Dn hg ho h0 hk h4 h5 h1 hB h3
    have u0:a'.eval (.tmp 91)=.pointer (some ⟨r,0,none⟩):=h3 0 (h1 0 (by decide))
    exact opI_val (run_op_nil ho u0 w') (by rw [ho];intro c h;cases h) h0 ⟨BSt_upd hB 7 (by decide),rfl,kq⟩
   | 8,_=>
    intro o a' w' Dn hg ho h0 hk h4 h5 h1 hB h3
    have u0:a'.eval (.tmp 98)=.pointer (some ⟨r,0,none⟩):=h3 7 (h1 7 (by decide))
    exact opI_val (v:=.pointer (some ⟨r,3,none⟩)) (by simp only [execOp,show o.op=Op.fieldAddr 149 (.tmp 98) 3 from ho,u0];go_simp) (by rw [ho];intro c h;cases h) h0 ⟨BSt_upd hB 8 (by decide),rfl,kq⟩
   | 9,_=>
    intro o a' w' Dn hg ho h0 hk h4 h5 h1 hB h3
    have u0:a'.eval (.tmp 99)=.pointer (some ⟨r,3,none⟩):=h3 8 (h1 8 (by decide))
    have u1:a'.eval (.tmp 97)=.int .u64 ((gone|||2^x:Nat):Int):=h3 6 (h1 6 (by decide))
    have hw:=BSt_same hB h4
    subst hw
    have cc:w.drew.cell? ⟨r,3,none⟩=some (.int .u64 gone):=c3
    have ff:w.drew.frozen? ⟨r,3,none⟩=false:=f3
    obtain ⟨z,hz⟩:∃ z,((gone|||2^x:Nat):Int)=z:=⟨_,rfl⟩
    rw [hz] at u1
    refine opI_skip (w':=w.drew.setCell ⟨r,3,none⟩ (.int .u64 z)) (by simp only [execOp,show o.op=Op.store 101 (.tmp 99) (.tmp 97) from ho,u0,u1];go_simp) (by rw [ho];intro c h;cases h) ⟨?_,rfl,kq⟩
    unfold BSt;rw [if_pos upd_eq,hz]
   | n+10,hn=>exact absurd hn (by show ¬ n+10 < 10;omega)
 · rintro a' w' he h8 ⟨Dn,hf,hB⟩ h3
   have e:a'=Act.putFrom a 91 [.pointer (some ⟨r,0,none⟩),.pointer (some ⟨r,0,none⟩),.pointer (some ⟨r,0,none⟩),.pointer (some ⟨r,3,none⟩),.int .u64 gone,.int .i64 x,.int .u64 ((gone|||2^x:Nat):Int),.pointer (some ⟨r,0,none⟩),.pointer (some ⟨r,3,none⟩)]:=he.out _ rfl (by omega) (fun i hi=>?_)
   · rw [e];exact hQ w' (BSt_done hB (hf 9 (by decide)))
   · match i,hi with
     | 0,_=>exact h3 0 (by decide)
     | 1,_=>exact h3 1 (by decide)
     | 2,_=>exact h3 2 (by decide)
     | 3,_=>exact h3 3 (by decide)
     | 4,_=>exact h3 4 (by decide)
     | 5,_=>exact h3 5 (by decide)
     | 6,_=>exact h3 6 (by decide)
     | 7,_=>exact h3 7 (by decide)
     | 8,_=>exact h3 8 (by decide)
     | n+9,hn=>exact absurd hn (by simp)
end
end Go.Proofs.YthcgahldacpolaaGreatDoor
