import Derived.Test.YthcgahldacpolaaGreatDoorM43
import Derived.Test.YthcgahldacpolaaGreatDoorM42
import Derived.BigRegionIn
set_option maxRecDepth 100000
set_option maxHeartbeats 8000000
namespace Go.Proofs.YthcgahldacpolaaGreatDoor
open Go.RowKit Go.Shelf Go.Deep Gf
variable {a:Act} {ops:Array Oper} {off:Bool} {Q:Exit→Act→World→Prop} {F:Foot} {c s q4 lo ar v D L G t f nn n l ls b q p ps N S nb:Nat} {Dn:Nat→Bool} {R:Nat→List (List Nat)} {T Mv:Nat→Prop} {α:Type} {pg ob:Value} {w0 w Z:World} {J:World→Arr→Nat→Prop} {K:World→Prop}
def BMx (c s:Nat) (w0:World) (T:Nat→Prop) (K:World→Prop) (q4 lo:Nat) (Dn:Nat→Bool) (w:World):Prop:=if Dn s=true then ∃ Z,K Z∧Outside T w0 Z∧w=Z.setCell ⟨q4,0,none⟩ (.int .u64 (lo:Nat)) else Outside T w0 w∧(if Dn c=true then K w else w=w0)
theorem BMx_upd (h:BMx c s w0 T K q4 lo Dn w) (i:Nat) (hi:i≠c) (hj:i≠s):BMx c s w0 T K q4 lo (upd Dn i) w:=by
 have e1:upd Dn i s=Dn s:=by unfold upd;rw [if_neg (fun e:s=i=>hj e.symm)]
 have e2:upd Dn i c=Dn c:=by unfold upd;rw [if_neg (fun e:c=i=>hi e.symm)]
 unfold BMx
 rw [e1,e2]
 exact h
theorem BMx_out (h:BMx c s w0 T K q4 lo Dn w) (hn:Dn s=false):Outside T w0 w:=by
 unfold BMx at h
 rw [if_neg (by rw [hn];decide)] at h
 exact h.1
theorem arc_rootLd (h:ArcAt w ar v D L G t f nn pg ob off):(Instr.loadAt 93 (.pointer (some ⟨ar,1,none⟩))).run Tryz.prog w=.ok (.agg (rootA D L G t f nn)) w:=by
 have h':w.heap[ar]?=some (.cells (arcA v D L G t f nn pg ob off) 98 (0,0)):=h
 have hr:w.rangeAt ar 1 (rootA D L G t f nn).toList:=fun j u hu=>by
  unfold rootA at hu
  match j with
  | 0 | 1 | 2 | 3 | 4 | 5=>simp at hu;subst hu;simp [World.cell?,h',arcA]
  | j+6=>simp at hu
 exact run_loadAt_mid (P:=Tryz.prog) w ar 1 93 (rootA D L G t f nn).toList _ hr Tryz.underlying93 rfl (by kernel_rfl)
noncomputable def RM8:Array Oper:=((Tryz.f35.body.bind (rgf · 8))).getD #[]
def shM8:List (Op×Option Nat×List Nat):=[(Op.load 101 (.tmp 4),some 41,[]),
 (Op.load 52 (.tmp 2),some 42,[]),
 (Op.load 52 (.tmp 2),some 43,[]),
 (Op.nilCheck (.tmp 43),some 44,[2]),
 (Op.fieldAddr 98 (.tmp 44) 1,some 45,[3]),
 (Op.load 93 (.tmp 45),some 46,[4]),
 (Op.makeInterface 93 (.tmp 46),some 47,[5]),
 (Op.load 126 (.tmp 3),some 48,[]),
 (Op.call { callee:=Callee.value (Operand.func 51),args:=#[.tmp 42,Operand.const (Value.int IntKind.i64 0),.tmp 47,.tmp 48],argTypes:=#[52,3,164,126] },some 49,[1,6,7]),
 (Op.binOp BinOp.or 101 (.tmp 41) (.tmp 49) 101,some 50,[0,8]),
 (Op.store 101 (.tmp 4) (.tmp 50),none,[9,8,0,1,2,3,4,5,6,7,8,9])]
theorem RM8_shape:RegShape RM8 41 51 shM8:=regShape (by kernel_rfl) (by kernel_rfl)
def vsM8 (l ar q ls lo D L G t f nn:Nat):List Value:=[.int .u64 l,.pointer (some ⟨ar,0,none⟩),.pointer (some ⟨ar,0,none⟩),.pointer (some ⟨ar,0,none⟩),.pointer (some ⟨ar,1,none⟩),.agg (rootA D L G t f nn),recV (.root D L G t f nn),.func (.func 36) #[] #[.pointer (some ⟨q,0,none⟩)],.int .u64 ls,.int .u64 lo,undef]
theorem mend_root (h9:RM8=ops) (hs:a.tmps.size=62) {T:Nat→Prop} {K:World→Prop} {l ar v q ls lo q2 q3 q4 D L G t f nn:Nat} {pg ob:Value} {off:Bool}
 (h2:Boxed w q2 52 (.pointer (some ⟨ar,0,none⟩))) (h3:Boxed w q3 126 (chsV q)) (h4:Boxed w q4 101 (.int .u64 l)) (ha:ArcAt w ar v D L G t f nn pg ob off)
 (t2:¬ T q2) (t3:¬ T q3) (t4:¬ T q4) (ta:¬ T ar) (hf:∀ w':World,(binOp .or 101 (.int .u64 l) (.int .u64 ls)).run Tryz.prog w'=.ok (.int .u64 lo) w')
 (he:Calls Tryz.prog 51 #[.pointer (some ⟨ar,0,none⟩),.int .i64 (0:Nat),recV (.root D L G t f nn),chsV q] w.drew fun e w'=>e=.returned (.int .u64 ls)∧K w'∧Outside T w.drew w')
 (e2:a.eval (.tmp 2)=.pointer (some ⟨q2,0,none⟩)) (e3:a.eval (.tmp 3)=.pointer (some ⟨q3,0,none⟩)) (e4:a.eval (.tmp 4)=.pointer (some ⟨q4,0,none⟩))
 (hQ:∀ (Z:World) (vs:List Value),vs.length=10→K Z→Outside T w.drew Z→Q .normal (Act.putFrom a 41 vs) (Z.setCell ⟨q4,0,none⟩ (.int .u64 (lo:Nat)))) :
 (Code.region 8 ops true).wpIn Fence.wide n Tryz.prog Q a w:=by
 subst h9
 unfold chsV at h3 he
 have hh:=ha.lt
 refine region_factsI (by kernel_rfl) RM8_shape a w (by omega) (fun i u _=>u=(vsM8 l ar q ls lo D L G t f nn).getD i undef) (BMx 8 10 w.drew T K q4 lo) ⟨Outside.refl _ _,rfl⟩ ?_ ?_
 · intro i hi
   match i,hi with
   | 0,_=>
    intro o a' w' Dn hg ho h1 hk h6 h7 h0 hB h5
    have h8:Dn 10=false:=by
     cases e:Dn 10 with
     | false=>rfl
     | true=>exact absurd ((h7 10 e).2 0 (by decide)) (by rw [h6];decide)
    have hO:=BMx_out hB h8
    have u0:a'.eval (.tmp 4)=.pointer (some ⟨q4,0,none⟩):=(hk.slot 4 (by omega)).trans e4
    have cc:=(show Boxed w' q4 101 (.int .u64 l) from (hO.block _ h4.lt t4).trans h4).cell
    exact opW_val (v:=.int .u64 l) (by simp only [execOp,show o.op=Op.load 101 (.tmp 4) from ho,u0];go_simp) (by rw [ho];intro c h;cases h) h1 ⟨BMx_upd hB _ (by decide) (by decide),rfl,kq⟩
   | 1,_=>
    intro o a' w' Dn hg ho h1 hk h6 h7 h0 hB h5
    have h8:Dn 10=false:=by
     cases e:Dn 10 with
     | false=>rfl
     | true=>exact absurd ((h7 10 e).2 1 (by decide)) (by rw [h6];decide)
    have hO:=BMx_out hB h8
    have u0:a'.eval (.tmp 2)=.pointer (some ⟨q2,0,none⟩):=(hk.slot 2 (by omega)).trans e2
    have cc:=(show Boxed w' q2 52 (.pointer (some ⟨ar,0,none⟩)) from (hO.block _ h2.lt t2).trans h2).cell
    exact opW_val (v:=.pointer (some ⟨ar,0,none⟩)) (by simp only [execOp,show o.op=Op.load 52 (.tmp 2) from ho,u0];go_simp) (by rw [ho];intro c h;cases h) h1 ⟨BMx_upd hB _ (by decide) (by decide),rfl,kq⟩
   | 2,_=>
    intro o a' w' Dn hg ho h1 hk h6 h7 h0 hB h5
    have h8:Dn 10=false:=by
     cases e:Dn 10 with
     | false=>rfl
     | true=>exact absurd ((h7 10 e).2 2 (by decide)) (by rw [h6];decide)
    have hO:=BMx_out hB h8
    have u0:a'.eval (.tmp 2)=.pointer (some ⟨q2,0,none⟩):=(hk.slot 2 (by omega)).trans e2
    have cc:=(show Boxed w' q2 52 (.pointer (some ⟨ar,0,none⟩)) from (hO.block _ h2.lt t2).trans h2).cell
    exact opW_val (v:=.pointer (some ⟨ar,0,none⟩)) (by simp only [execOp,show o.op=Op.load 52 (.tmp 2) from ho,u0];go_simp) (by rw [ho];intro c h;cases h) h1 ⟨BMx_upd hB _ (by decide) (by decide),rfl,kq⟩
   | 3,_=>
    intro o a' w' Dn hg ho h1 hk h6 h7 h0 hB h5
    exact opW_val (v:=.pointer (some ⟨ar,0,none⟩)) (run_op_nil ho (h5 2 (h0 2 (by decide))) w') (by rw [ho];intro c h;cases h) h1 ⟨BMx_upd hB _ (by decide) (by decide),rfl,kq⟩
   | 4,_=>
    intro o a' w' Dn hg ho h1 hk h6 h7 h0 hB h5
    have u0:a'.eval (.tmp 44)=.pointer (some ⟨ar,0,none⟩):=h5 3 (h0 3 (by decide))
    exact opW_val (v:=.pointer (some ⟨ar,1,none⟩)) (by simp only [execOp,show o.op=Op.fieldAddr 98 (.tmp 44) 1 from ho,u0];go_simp) (by rw [ho];intro c h;cases h) h1 ⟨BMx_upd hB _ (by decide) (by decide),rfl,kq⟩
   | 5,_=>
    intro o a' w' Dn hg ho h1 hk h6 h7 h0 hB h5
    have h8:Dn 10=false:=by
     cases e:Dn 10 with
     | false=>rfl
     | true=>exact absurd ((h7 10 e).2 5 (by decide)) (by rw [h6];decide)
    have hO:=BMx_out hB h8
    have u0:a'.eval (.tmp 45)=.pointer (some ⟨ar,1,none⟩):=h5 4 (h0 4 (by decide))
    have hj:=arc_rootLd (ha.keep (w':=w') (hO.block _ hh ta))
    exact opW_val (v:=.agg (rootA D L G t f nn)) (by simp [execOp,show o.op=Op.load 93 (.tmp 45) from ho,u0,hj]) (by rw [ho];intro c h;cases h) h1 ⟨BMx_upd hB _ (by decide) (by decide),rfl,kq⟩
   | 6,_=>
    intro o a' w' Dn hg ho h1 hk h6 h7 h0 hB h5
    have u0:a'.eval (.tmp 46)=.agg (rootA D L G t f nn):=h5 5 (h0 5 (by decide))
    exact opW_val (v:=recV (.root D L G t f nn)) (by simp only [execOp,show o.op=Op.makeInterface 93 (.tmp 46) from ho,u0,recV];go_simp) (by rw [ho];intro c h;cases h) h1 ⟨BMx_upd hB _ (by decide) (by decide),rfl,kq⟩
   | 7,_=>
    intro o a' w' Dn hg ho h1 hk h6 h7 h0 hB h5
    have h8:Dn 10=false:=by
     cases e:Dn 10 with
     | false=>rfl
     | true=>exact absurd ((h7 10 e).2 7 (by decide)) (by rw [h6];decide)
    have hO:=BMx_out hB h8
    have u0:a'.eval (.tmp 3)=.pointer (some ⟨q3,0,none⟩):=(hk.slot 3 (by omega)).trans e3
    have cc:=(show Boxed w' q3 126 (.func (.func 36) #[] #[.pointer (some ⟨q,0,none⟩)]) from (hO.block _ h3.lt t3).trans h3).cell
    exact opW_val (v:=.func (.func 36) #[] #[.pointer (some ⟨q,0,none⟩)]) (by simp only [execOp,show o.op=Op.load 126 (.tmp 3) from ho,u0];go_simp) (by rw [ho];intro c h;cases h) h1 ⟨BMx_upd hB _ (by decide) (by decide),rfl,kq⟩
   | 8,_=>
    intro o a' w' Dn hg ho h1 hk h6 h7 h0 hB h5
    have h8:Dn 10=false:=by
     cases e:Dn 10 with
     | false=>rfl
     | true=>exact absurd ((h7 10 e).2 8 (by decide)) (by rw [h6];decide)
    have hO:=BMx_out hB h8
    have hm:w'=w.drew:=by
     unfold BMx at hB
     rw [if_neg (by rw [h8];decide)] at hB
     have:=hB.2
     rwa [if_neg (by rw [h6];decide)] at this
    have u0:a'.eval (.tmp 42)=.pointer (some ⟨ar,0,none⟩):=h5 1 (h0 1 (by decide))
    have u1:a'.eval (.tmp 47)=recV (.root D L G t f nn):=h5 6 (h0 6 (by decide))
    have u2:a'.eval (.tmp 48)=.func (.func 36) #[] #[.pointer (some ⟨q,0,none⟩)]:=h5 7 (h0 7 (by decide))
    refine opW_call (f:=51) (args:=#[.pointer (some ⟨ar,0,none⟩),.int .i64 (0:Nat),recV (.root D L G t f nn),.func (.func 36) #[] #[.pointer (some ⟨q,0,none⟩)]]) (w1:=w') (by simp only [execOp,show o.op=Op.call { callee:=Callee.value (Operand.func 51),args:=#[.tmp 42,Operand.const (Value.int IntKind.i64 0),.tmp 47,.tmp 48],argTypes:=#[52,3,164,126] } from ho];go_simp;exact ⟨by simpa [Act.eval] using u0,by simpa [Act.eval] using u1,by simpa [Act.eval] using u2⟩) (by rw [ho];intro c h;cases h) h1 (by rw [hm];exact he) ?_
    rintro e w'' ⟨rfl,hK,hp⟩
    refine ⟨_,rfl,?_,rfl,kq⟩
    unfold BMx
    rw [if_neg (by show ¬ upd Dn 8 10=true;unfold upd;rw [if_neg (by decide),h8];decide),if_pos (by unfold upd;rw [if_pos rfl])]
    exact ⟨hp,hK⟩
   | 9,_=>
    intro o a' w' Dn hg ho h1 hk h6 h7 h0 hB h5
    have u0:a'.eval (.tmp 41)=.int .u64 l:=h5 0 (h0 0 (by decide))
    have u1:a'.eval (.tmp 49)=.int .u64 ls:=h5 8 (h0 8 (by decide))
    have hc:=hf w'
    exact opW_val (v:=.int .u64 lo) (by simp [execOp,show o.op=Op.binOp BinOp.or 101 (.tmp 41) (.tmp 49) 101 from ho,u0,u1,eqGuard,hc]) (by rw [ho];intro c h;cases h) h1 ⟨BMx_upd hB _ (by decide) (by decide),rfl,kq⟩
   | 10,_=>
    intro o a' w' Dn hg ho h1 hk h6 h7 h0 hB h5
    have hO:=BMx_out hB h6
    have u0:a'.eval (.tmp 4)=.pointer (some ⟨q4,0,none⟩):=(hk.slot 4 (by omega)).trans e4
    have u1:a'.eval (.tmp 50)=.int .u64 lo:=h5 9 (h0 9 (by decide))
    have hb:=show Boxed w' q4 101 (.int .u64 l) from (hO.block _ h4.lt t4).trans h4
    have c4:=hb.cell
    have f4:=hb.frozen
    refine opW_skip (w':=w'.setCell ⟨q4,0,none⟩ (.int .u64 lo)) (by simp only [execOp,show o.op=Op.store 101 (.tmp 4) (.tmp 50) from ho,u0,u1];go_simp) (by rw [ho];intro c h;cases h) ⟨?_,rfl,kq⟩
    have hq:K w':=by
     unfold BMx at hB
     rw [if_neg (by rw [h6];decide)] at hB
     have:=hB.2
     rwa [if_pos (h0 8 (by decide))] at this
    unfold BMx
    rw [if_pos (by unfold upd;rw [if_pos rfl])]
    exact ⟨w',hq,hO,rfl⟩
   | n+11,hn=>exact absurd hn (by show ¬ n+11 < 11;omega)
 · rintro a' w' hr _ ⟨Dn,hD,hB⟩ h5
   unfold BMx at hB
   rw [if_pos (hD 10 (by decide))] at hB
   obtain ⟨Z,hK,hO,rfl⟩:=hB
   have e:a'=Act.putFrom a 41 ((List.range 10).map fun i=>a'.eval (.tmp (41+i))):=hr.out _ (by simp) (by omega) (fun i hi=>by
    simp at hi
    rw [List.getD_eq_getElem?_getD,List.getElem?_map,List.getElem?_range (by omega)];rfl)
   rw [e]
   exact hQ Z _ (by rw [List.length_map,List.length_range]) hK hO
noncomputable def RM10:Array Oper:=((Tryz.f35.body.bind (rgf · 10))).getD #[]
def shM10:List (Op×Option Nat×List Nat):=[(Op.load 101 (.tmp 4),some 53,[]),
 (Op.load 52 (.tmp 2),some 54,[]),
 (Op.build 137 #[],some 55,[]),
 (Op.makeInterface 137 (.tmp 55),some 56,[2]),
 (Op.load 126 (.tmp 3),some 57,[]),
 (Op.call { callee:=Callee.value (Operand.func 51),args:=#[.tmp 54,Operand.const (Value.int IntKind.i64 1),.tmp 56,.tmp 57],argTypes:=#[52,3,164,126] },some 58,[1,3,4]),
 (Op.binOp BinOp.or 101 (.tmp 53) (.tmp 58) 101,some 59,[0,5]),
 (Op.store 101 (.tmp 4) (.tmp 59),none,[6,5,0,1,2,3,4,5,6])]
theorem RM10_shape:RegShape RM10 53 60 shM10:=regShape (by kernel_rfl) (by kernel_rfl)
def vsM10 (l ar q ls lo:Nat):List Value:=[.int .u64 l,.pointer (some ⟨ar,0,none⟩),.agg #[],recV .filled,.func (.func 36) #[] #[.pointer (some ⟨q,0,none⟩)],.int .u64 ls,.int .u64 lo,undef]
theorem mend_fill (h9:RM10=ops) (hq:a.tmps.size=62) {T:Nat→Prop} {K:World→Prop} {l ar v q ls lo q2 q3 q4 D L G t f nn:Nat} {pg ob:Value} {off:Bool}
 (h2:Boxed w q2 52 (.pointer (some ⟨ar,0,none⟩))) (h3:Boxed w q3 126 (chsV q)) (h4:Boxed w q4 101 (.int .u64 l)) (ha:ArcAt w ar v D L G t f nn pg ob off)
 (t2:¬ T q2) (t3:¬ T q3) (t4:¬ T q4) (_:¬ T ar) (hf:∀ w':World,(binOp .or 101 (.int .u64 l) (.int .u64 ls)).run Tryz.prog w'=.ok (.int .u64 lo) w')
 (he:Calls Tryz.prog 51 #[.pointer (some ⟨ar,0,none⟩),.int .i64 (1:Nat),recV .filled,chsV q] w.drew fun e w'=>e=.returned (.int .u64 ls)∧K w'∧Outside T w.drew w')
 (e2:a.eval (.tmp 2)=.pointer (some ⟨q2,0,none⟩)) (e3:a.eval (.tmp 3)=.pointer (some ⟨q3,0,none⟩)) (e4:a.eval (.tmp 4)=.pointer (some ⟨q4,0,none⟩))
 (hQ:∀ (Z:World) (vs:List Value),vs.length=7→K Z→Outside T w.drew Z→Q .normal (Act.putFrom a 53 vs) (Z.setCell ⟨q4,0,none⟩ (.int .u64 (lo:Nat)))) :
 (Code.region 10 ops true).wpIn Fence.wide n Tryz.prog Q a w:=by
 subst h9
 unfold chsV at h3 he
 have hr:=ha.lt
 refine region_factsI (by kernel_rfl) RM10_shape a w (by omega) (fun i u _=>u=(vsM10 l ar q ls lo).getD i undef) (BMx 5 7 w.drew T K q4 lo) ⟨Outside.refl _ _,rfl⟩ ?_ ?_
 · intro i hi
   match i,hi with
   | 0,_=>
    intro o a' w' Dn hg ho h1 hk h6 h7 h0 hB h5
    have h8:Dn 7=false:=by
     cases e:Dn 7 with
     | false=>rfl
     | true=>exact absurd ((h7 7 e).2 0 (by decide)) (by rw [h6];decide)
    have hO:=BMx_out hB h8
    have u0:a'.eval (.tmp 4)=.pointer (some ⟨q4,0,none⟩):=(hk.slot 4 (by omega)).trans e4
    have cc:=(show Boxed w' q4 101 (.int .u64 l) from (hO.block _ h4.lt t4).trans h4).cell
    exact opW_val (v:=.int .u64 l) (by simp only [execOp,show o.op=Op.load 101 (.tmp 4) from ho,u0];go_simp) (by rw [ho];intro c h;cases h) h1 ⟨BMx_upd hB _ (by decide) (by decide),rfl,kq⟩
   | 1,_=>
    intro o a' w' Dn hg ho h1 hk h6 h7 h0 hB h5
    have h8:Dn 7=false:=by
     cases e:Dn 7 with
     | false=>rfl
     | true=>exact absurd ((h7 7 e).2 1 (by decide)) (by rw [h6];decide)
    have hO:=BMx_out hB h8
    have u0:a'.eval (.tmp 2)=.pointer (some ⟨q2,0,none⟩):=(hk.slot 2 (by omega)).trans e2
    have cc:=(show Boxed w' q2 52 (.pointer (some ⟨ar,0,none⟩)) from (hO.block _ h2.lt t2).trans h2).cell
    exact opW_val (v:=.pointer (some ⟨ar,0,none⟩)) (by simp only [execOp,show o.op=Op.load 52 (.tmp 2) from ho,u0];go_simp) (by rw [ho];intro c h;cases h) h1 ⟨BMx_upd hB _ (by decide) (by decide),rfl,kq⟩
   | 2,_=>
    intro o a' w' Dn hg ho h1 hk h6 h7 h0 hB h5
    exact opW_val (v:=.agg #[]) (by simp only [execOp,show o.op=Op.build 137 #[] from ho];go_simp) (by rw [ho];intro c h;cases h) h1 ⟨BMx_upd hB _ (by decide) (by decide),rfl,kq⟩
   | 3,_=>
    intro o a' w' Dn hg ho h1 hk h6 h7 h0 hB h5
    have u0:a'.eval (.tmp 55)=.agg #[]:=h5 2 (h0 2 (by decide))
    exact opW_val (v:=recV .filled) (by simp only [execOp,show o.op=Op.makeInterface 137 (.tmp 55) from ho,u0,recV];go_simp) (by rw [ho];intro c h;cases h) h1 ⟨BMx_upd hB _ (by decide) (by decide),rfl,kq⟩
   | 4,_=>
    intro o a' w' Dn hg ho h1 hk h6 h7 h0 hB h5
    have h8:Dn 7=false:=by
     cases e:Dn 7 with
     | false=>rfl
     | true=>exact absurd ((h7 7 e).2 4 (by decide)) (by rw [h6];decide)
    have hO:=BMx_out hB h8
    have u0:a'.eval (.tmp 3)=.pointer (some ⟨q3,0,none⟩):=(hk.slot 3 (by omega)).trans e3
    have cc:=(show Boxed w' q3 126 (.func (.func 36) #[] #[.pointer (some ⟨q,0,none⟩)]) from (hO.block _ h3.lt t3).trans h3).cell
    exact opW_val (v:=.func (.func 36) #[] #[.pointer (some ⟨q,0,none⟩)]) (by simp only [execOp,show o.op=Op.load 126 (.tmp 3) from ho,u0];go_simp) (by rw [ho];intro c h;cases h) h1 ⟨BMx_upd hB _ (by decide) (by decide),rfl,kq⟩
   | 5,_=>
    intro o a' w' Dn hg ho h1 hk h6 h7 h0 hB h5
    have h8:Dn 7=false:=by
     cases e:Dn 7 with
     | false=>rfl
     | true=>exact absurd ((h7 7 e).2 5 (by decide)) (by rw [h6];decide)
    have hO:=BMx_out hB h8
    have hh:w'=w.drew:=by
     unfold BMx at hB
     rw [if_neg (by rw [h8];decide)] at hB
     have:=hB.2
     rwa [if_neg (by rw [h6];decide)] at this
    have u0:a'.eval (.tmp 54)=.pointer (some ⟨ar,0,none⟩):=h5 1 (h0 1 (by decide))
    have u1:a'.eval (.tmp 56)=recV .filled:=h5 3 (h0 3 (by decide))
    have u2:a'.eval (.tmp 57)=.func (.func 36) #[] #[.pointer (some ⟨q,0,none⟩)]:=h5 4 (h0 4 (by decide))
    refine opW_call (f:=51) (args:=#[.pointer (some ⟨ar,0,none⟩),.int .i64 (1:Nat),recV .filled,.func (.func 36) #[] #[.pointer (some ⟨q,0,none⟩)]]) (w1:=w') (by simp only [execOp,show o.op=Op.call { callee:=Callee.value (Operand.func 51),args:=#[.tmp 54,Operand.const (Value.int IntKind.i64 1),.tmp 56,.tmp 57],argTypes:=#[52,3,164,126] } from ho];go_simp;exact ⟨by simpa [Act.eval] using u0,by simpa [Act.eval] using u1,by simpa [Act.eval] using u2⟩) (by rw [ho];intro c h;cases h) h1 (by rw [hh];exact he) ?_
    rintro e w'' ⟨rfl,hK,hj⟩
    refine ⟨_,rfl,?_,rfl,kq⟩
    unfold BMx
    rw [if_neg (by show ¬ upd Dn 5 7=true;unfold upd;rw [if_neg (by decide),h8];decide),if_pos (by unfold upd;rw [if_pos rfl])]
    exact ⟨hj,hK⟩
   | 6,_=>
    intro o a' w' Dn hg ho h1 hk h6 h7 h0 hB h5
    have u0:a'.eval (.tmp 53)=.int .u64 l:=h5 0 (h0 0 (by decide))
    have u1:a'.eval (.tmp 58)=.int .u64 ls:=h5 5 (h0 5 (by decide))
    have hc:=hf w'
    exact opW_val (v:=.int .u64 lo) (by simp [execOp,show o.op=Op.binOp BinOp.or 101 (.tmp 53) (.tmp 58) 101 from ho,u0,u1,eqGuard,hc]) (by rw [ho];intro c h;cases h) h1 ⟨BMx_upd hB _ (by decide) (by decide),rfl,kq⟩
   | 7,_=>
    intro o a' w' Dn hg ho h1 hk h6 h7 h0 hB h5
    have hO:=BMx_out hB h6
    have u0:a'.eval (.tmp 4)=.pointer (some ⟨q4,0,none⟩):=(hk.slot 4 (by omega)).trans e4
    have u1:a'.eval (.tmp 59)=.int .u64 lo:=h5 6 (h0 6 (by decide))
    have hb:=show Boxed w' q4 101 (.int .u64 l) from (hO.block _ h4.lt t4).trans h4
    have c4:=hb.cell
    have f4:=hb.frozen
    refine opW_skip (w':=w'.setCell ⟨q4,0,none⟩ (.int .u64 lo)) (by simp only [execOp,show o.op=Op.store 101 (.tmp 4) (.tmp 59) from ho,u0,u1];go_simp) (by rw [ho];intro c h;cases h) ⟨?_,rfl,kq⟩
    have hm:K w':=by
     unfold BMx at hB
     rw [if_neg (by rw [h6];decide)] at hB
     have:=hB.2
     rwa [if_pos (h0 5 (by decide))] at this
    unfold BMx
    rw [if_pos (by unfold upd;rw [if_pos rfl])]
    exact ⟨w',hm,hO,rfl⟩
   | n+8,hn=>exact absurd hn (by show ¬ n+8 < 8;omega)
 · rintro a' w' hp _ ⟨Dn,hD,hB⟩ h5
   unfold BMx at hB
   rw [if_pos (hD 7 (by decide))] at hB
   obtain ⟨Z,hK,hO,rfl⟩:=hB
   have e:a'=Act.putFrom a 53 ((List.range 7).map fun i=>a'.eval (.tmp (53+i))):=hp.out _ (by simp) (by omega) (fun i hi=>by
    simp at hi
    rw [List.getD_eq_getElem?_getD,List.getElem?_map,List.getElem?_range (by omega)];rfl)
   rw [e]
   exact hQ Z _ (by rw [List.length_map,List.length_range]) hK hO
section
attribute [local go_sem] Oper.semAt_some
theorem or_set (hl:l=0∨l=ls) (hs:ls < 65536):bits .or .u64 (l:Int) (ls:Int)=(ls:Int):=by
 have h:=bits_or_u64_nat l ls (by omega) (by omega)
 rcases hl with rfl | rfl
 · simpa using h
 · simpa using h
theorem or_run (hl:l=0∨l=ls) (hs:ls < 65536) (w':World):(binOp .or 101 (.int .u64 l) (.int .u64 ls)).run Tryz.prog w'=.ok (.int .u64 ls) w':=by
 have h:=or_set hl hs
 go_simp
theorem end_cell2 {fn:Func} {D' u:Nat} {ty tz:TypeId} {x y:Value} {R:Ending→World→Prop} (hr:fn.results=#[.cell t ty,.cell u tz]) (hd:a.defers=[{ target:=.collected D',args:=#[] }]) (h8:a.tmps.getD t undef=.pointer (some ⟨b,0,none⟩)) (h9:a.tmps.getD u undef=.pointer (some ⟨c,0,none⟩))
 (hl:∀ w,w.heap[b]?=Z.heap[b]?→(loadVar ty ⟨b,0,none⟩).run Tryz.prog w=.ok x w) (hm:∀ w,w.heap[c]?=Z.heap[c]?→(loadVar tz ⟨c,0,none⟩).run Tryz.prog w=.ok y w) (hK:Z.heap[D']?=some (.deferred (some []))) (hD:b≠D') (hE:c≠D')
 (hR:R (.returned (.tuple #[x,y])) (Z.putObj D' (.deferred none))):bodyPostM Fence.wide n Tryz.prog fn R .ret a Z:=by
 obtain ⟨tm,df⟩:=a
 simp only at hd h8 h9
 subst hd
 refine ⟨by simp,.inl ⟨_,_,rfl,run_takeDeferred hK,?_⟩⟩
 have c0:=hl (Z.putObj D' (.deferred none)) (World.putObj_heap_other hD)
 have c1:=hm (Z.putObj D' (.deferred none)) (World.putObj_heap_other hE)
 refine ⟨.tuple #[x,y],?_,hR⟩
 have h0:tm[t]?.getD undef=.pointer (some ⟨b,0,none⟩):=by simpa using h8
 have h1:tm[u]?.getD undef=.pointer (some ⟨c,0,none⟩):=by simpa using h9
 simp [results,hr,asAddr,h0,h1,c0,c1]
theorem load_err (h:Boxed Z b 29 .nilIface) (w:World) (e:w.heap[b]?=Z.heap[b]?):(loadVar 29 ⟨b,0,none⟩).run Tryz.prog w=.ok .nilIface w:=by
 have hc:w.cell? ⟨b,0,none⟩=some .nilIface:=(show Boxed w b 29 .nilIface from e.trans h).cell
 simp [go_sem,hc]
theorem list10 {l:List α} (h:l.length=10):∃ a0 a1 a2 a3 a4 a5 a6 a7 a8 a9,l=[a0,a1,a2,a3,a4,a5,a6,a7,a8,a9]:=by
 match l,h with
 | [a0,a1,a2,a3,a4,a5,a6,a7,a8,a9],_=>exact ⟨a0,a1,a2,a3,a4,a5,a6,a7,a8,a9,rfl⟩
theorem list7 {l:List α} (h:l.length=7):∃ a0 a1 a2 a3 a4 a5 a6,l=[a0,a1,a2,a3,a4,a5,a6]:=by
 match l,h with
 | [a0,a1,a2,a3,a4,a5,a6],_=>exact ⟨a0,a1,a2,a3,a4,a5,a6,rfl⟩
structure MdE (w:World) (ar q l D1:Nat) (Mv:Nat→Prop) (J:World→Arr→Nat→Prop) (X:World):Prop where
 b2:Boxed X w.heap.size 52 (.pointer (some ⟨ar,0,none⟩))
 b3:Boxed X (w.heap.size+1) 126 (chsV q)
 b4:Boxed X (w.heap.size+1+1) 101 (.int .u64 l)
 b5:Boxed X (w.heap.size+1+1+1) 29 .nilIface
 arr:∃ A ho,J X A ho
 out:Outside Mv w X
 dk:X.heap[D1]?=some (.deferred (some []))
theorem MdE.next {X:World} {D1:Nat} (h:MdE w ar q l D1 Mv J X) (hm:∀ k,Mv k→k < w.heap.size) (h0:∀ X Y A ho (T:Nat→Prop),J X A ho→Outside T X Y→(∀ k,T k→w.heap.size≤k)→J Y A ho) (hD:w.heap.size+4≤D1)
 (hJ:∃ A ho,J Z A ho) (hO:Outside Mv X.drew Z):MdE w ar q ls D1 Mv J (Z.setCell ⟨w.heap.size+1+1,0,none⟩ (.int .u64 (ls:Nat))):=by
 have h5:Outside Mv X Z:=(Outside.drew X).trans hO
 obtain ⟨W,hW⟩:∃ W,Z.setCell ⟨w.heap.size+1+1,0,none⟩ (.int .u64 (ls:Nat))=W:=⟨_,rfl⟩
 have h6:∀ k,k≠w.heap.size+1+1→W.heap[k]?=Z.heap[k]?:=fun k hk=>by rw [← hW];exact blk_setCell_other _ _ _ _ hk
 have h8:Z.heap.size=W.heap.size:=by rw [← hW];simp [World.setCell]
 have h7:Outside (fun k=>k=w.heap.size+1+1) Z W:=⟨by rw [← hW];rfl,by rw [← hW];rfl,by rw [← hW];rfl,by omega,fun k _ hk=>h6 k hk⟩
 have hk:∀ k,w.heap.size≤k→k < X.heap.size→k≠w.heap.size+1+1→W.heap[k]?=X.heap[k]?:=fun k h1 h2 h3=>(h6 k h3).trans (h5.block k h2 (fun q=>by have:=hm k q;omega))
 have h4:Boxed Z (w.heap.size+1+1) 101 (.int .u64 l):=(h5.block _ h.b4.lt (fun q=>by have:=hm _ q;omega)).trans h.b4
 obtain ⟨A,ho,hJ⟩:=hJ
 have hb:=h4.set (.int .u64 (ls:Nat))
 rw [hW] at hb ⊢
 exact ⟨(hk _ (by omega) h.b2.lt (by omega)).trans h.b2,(hk _ (by omega) h.b3.lt (by omega)).trans h.b3,hb,(hk _ (by omega) h.b5.lt (by omega)).trans h.b5,⟨A,ho,h0 _ _ _ _ _ hJ h7 (fun k hk=>by omega)⟩,(h.out.trans h5).later h7 (fun k h1 h2=>by omega),(hk _ (by omega) (Array.getElem?_eq_some_iff.1 h.dk).1 (by omega)).trans h.dk⟩
structure Mends (w:World) (ar v p D L G ps t f nn N q S ls:Nat) (pg ob:Value) (off:Bool) (n nb:Nat) (F:Foot) (Mv:Nat→Prop) (X0:List Nat) (R:Nat→List (List Nat)) (J:World→Arr→Nat→Prop):Prop where
 vol:∀ X A ho,J X A ho→Vol X v p D L G ps ho A F∧A.fit∧A.n=n∧A.nb=nb∧A.wait < 0∧lsOf A (mems S)=ls
 own:∀ X Y A ho (T:Nat→Prop),J X A ho→Outside T X Y→(∀ k,T k→w.heap.size≤k)→J Y A ho
 put:∀ X Y A ho x,J X A ho→x∈X0→Outside (F.has p n) X Y→ArrAt Y p (A.putL (mems S) x (fun i=>(Rec.shard ((R x).getD i [])).blk)) F→J Y (A.putL (mems S) x (fun i=>(Rec.shard ((R x).getD i [])).blk)) ho
 whole:∀ X A ho r g b0 gone sp f0 x,J X A ho→x∈X0→w.heap.size≤r→w.heap.size≤g→r≠g→RdAt X r v b0 g N gone sp→X.rowIs g 33 N f0→Calls Tryz.prog 49 #[.pointer (some ⟨r,0,none⟩),.int .i64 x] X fun e Y=>∃ (bd:Nat) (g1 s1:Nat) (f1:Nat→Value) (A1:Arr) (ho1:Nat),e=.returned (.tuple #[.slice (some ⟨g,0,none⟩) N N,.int .u64 bd,.nilIface])∧RdAt Y r v x g N g1 s1∧Y.rowIs g 33 N f1∧Rws Y w.heap.size g (R x)∧J Y A1 ho1∧Outside (fun k=>k=r∨k=g∨Mv k) X Y
 root:∀ X A ho,J X A ho→ArcAt X ar v D L G t f nn pg ob off→Boxed X q 101 (.int .u64 S)→Calls Tryz.prog 51 #[.pointer (some ⟨ar,0,none⟩),.int .i64 (0:Nat),recV (.root D L G t f nn),chsV q] X fun e Y=>e=.returned (.int .u64 ls)∧Outside Mv X Y∧∃ A1 ho1,J Y A1 ho1
 fill:∀ X A ho,J X A ho→ArcAt X ar v D L G t f nn pg ob off→Boxed X q 101 (.int .u64 S)→Calls Tryz.prog 51 #[.pointer (some ⟨ar,0,none⟩),.int .i64 (1:Nat),recV .filled,chsV q] X fun e Y=>e=.returned (.int .u64 ls)∧Outside Mv X Y∧∃ A1 ho1,J Y A1 ho1
 len:∀ x,x∈X0→(R x).length=N
 inb:∀ x,x∈X0→x < nb
 S16:S < 65536
 Sn:∀ i,i∈mems S→i < n
 nN:n=N
 sum:N=D+L+G
 d12:D≤12
 l4:L≤4
 g4:G≤4
 mvF:∀ k,F.has p n k→Mv k
 mvA:¬ Mv ar
 mvq:¬ Mv q
 mvlt:∀ k,Mv k→k < w.heap.size
structure MdI (w:World) (ar v q N ls b6 r g B:Nat) (Mv:Nat→Prop) (J:World→Arr→Nat→Prop) (X0:List Nat) (_pre:List (Sn X0)) (X:World):Prop where
 b2:Boxed X w.heap.size 52 (.pointer (some ⟨ar,0,none⟩))
 b3:Boxed X (w.heap.size+1) 126 (chsV q)
 b4:∃ l:Nat,(l=0∨l=ls)∧Boxed X (w.heap.size+1+1) 101 (.int .u64 l)
 b5:Boxed X (w.heap.size+1+1+1) 29 .nilIface
 b6:Boxed X b6 127 (.pointer (some ⟨r,0,none⟩))
 rd:∃ b0 gone sp,RdAt X r v b0 g N gone sp
 row:∃ f0,X.rowIs g 33 N f0
 arr:∃ A ho,J X A ho
 out:Outside Mv w X
 size:B≤X.heap.size
theorem MdI.own {b6 r g B:Nat} {X0:List Nat} (hM:Mends w ar v p D L G ps t f nn N q S ls pg ob off n nb F Mv X0 R J) (hB:w.heap.size+4≤B) (h6:b6 < B) (hr:r < B) (hg:g < B):OwnFrom B (MdI w ar v q N ls b6 r g B Mv J X0):=by
 rintro pre X Y row ⟨h2,h3,⟨l,hl,h4⟩,h5,ha,⟨b0,gone,sp,h7⟩,⟨f0,h8⟩,⟨A,ho,h9⟩,hc,he⟩ h0 hf
 have hk:∀ k,k < B→Y.heap[k]?=X.heap[k]?:=fun k hk=>h0.block k (by omega) (fun e=>by have:=(hf k e.symm).1;omega)
 have hO:Outside (fun k=>w.heap.size≤k) X Y:=⟨h0.os,h0.tape,h0.output,h0.size,fun k hh hi=>hk k (by omega)⟩
 exact ⟨(hk _ (by omega)).trans h2,(hk _ (by omega)).trans h3,⟨l,hl,(hk _ (by omega)).trans h4⟩,(hk _ (by omega)).trans h5,(hk _ h6).trans ha,⟨b0,gone,sp,h7.keep (hk _ hr)⟩,⟨f0,h8.of_block (hk _ hg)⟩,⟨A,ho,hM.own _ _ _ _ _ h9 hO fun k hk=>hk⟩,hc.later hO (fun k h1 h2=>by omega),Nat.le_trans he h0.size⟩
theorem mend_any {P:List Nat} {os:List Ob} {A:Arr} {ho:Nat} (hM:Mends w ar v p D L G ps t f nn N q S ls pg ob off n nb F Mv (P ++ allSt os) R J) (hJ:J w A ho) (ha:ArcAt w ar v D L G t f nn pg ob off) (hq:Boxed w q 101 (.int .u64 S)) (q7:ls < 65536)
 (H9:Free F p n v)
 (hP:Ints (fun k=>k < w.heap.size∧¬ Mv k) w pg P) (hC:Cat (fun k=>k < w.heap.size∧¬ Mv k) w ob os) :
 Calls Tryz.prog 35 #[.pointer (some ⟨ar,0,none⟩),chsV q] w fun e Y=>e=.returned (.tuple #[.int .u64 ls,.nilIface])∧(∃ A1 hh,J Y A1 hh)∧Outside Mv w Y:=by
 obtain ⟨m,HN⟩:∃ m:Nat,Hid (9≤m):=⟨9,Nat.le_refl _⟩
 have y9:∀ (args:Array Value) (w:World),(callFunc 36 args).run Tryz.prog w=.ok (.enter 36 args) w:=enters_of Tryz.func36 (by kernel_rfl) rfl
 have c0:=ha.cells.1
 have kz:=ha.lt
 have H0:=hide6 hM hJ ha hq hP hC
 clear hM hJ ha hq hP hC
 unfold chsV
 refine (callsIn_wide (n:=m)).1 ?_
 refine callsIn_of_wp_marks Tryz.func35 rfl trivial ?_ rfl
 simp only [Tryz.ntmps35,List.size_toArray,List.length_cons,List.length_nil,Nat.reduceAdd,Nat.reduceSub,Array.replicate_succ,Array.replicate_zero,List.push_toArray,List.append_toArray,List.nil_append,List.cons_append]
 have c1:((((w.alloc (.cells #[.pointer (some ⟨ar,0,none⟩)] 52)).alloc (.cells #[.func (.func 36) #[] #[.pointer (some ⟨q,0,none⟩)]] 126)).alloc (.cells #[.int .u64 0] 101)).alloc (.cells #[.nilIface] 29)).cell? ⟨ar,0,none⟩=some (.pointer (some ⟨v,0,none⟩)):=(World.cell?_of_block ((((((Below.refl _ w).alloc (Nat.le_refl _) _).alloc (by simp) _).alloc (by simp;omega) _).alloc (by simp;omega) _).block _ kz)).trans c0
 gi_wp2
 clear c1
 obtain ⟨w4,hs⟩:∃ w4,(((w.alloc (.cells #[.pointer (some ⟨ar,0,none⟩)] 52)).alloc (.cells #[chsV q] 126)).alloc (.cells #[.int .u64 0] 101)).alloc (.cells #[.nilIface] 29)=w4:=⟨_,rfl⟩
 have hn:Below w.heap.size w w4:=by rw [← hs];exact ((((Below.refl _ w).alloc (Nat.le_refl _) _).alloc (by simp) _).alloc (by simp;omega) _).alloc (by simp;omega) _
 have q8:w4.heap.size=w.heap.size+4:=by rw [← hs];simp
 have q9:Boxed w4 w.heap.size 52 (.pointer (some ⟨ar,0,none⟩)):=by rw [← hs];exact (((Boxed.new w _ _).alloc _).alloc _).alloc _
 have qh:Boxed w4 (w.heap.size+1) 126 (chsV q):=by
  rw [← hs]
  have:=Boxed.new (w.alloc (.cells #[.pointer (some ⟨ar,0,none⟩)] 52)) 126 (chsV q)
  rw [World.size_alloc] at this
  exact (this.alloc _).alloc _
 have qi:Boxed w4 (w.heap.size+1+1) 101 (.int .u64 (0:Nat)):=by
  rw [← hs]
  have:=Boxed.new ((w.alloc (.cells #[.pointer (some ⟨ar,0,none⟩)] 52)).alloc (.cells #[chsV q] 126)) 101 (.int .u64 (0:Nat))
  rw [World.size_alloc,World.size_alloc] at this
  exact this.alloc _
 have qj:Boxed w4 (w.heap.size+1+1+1) 29 .nilIface:=by
  rw [← hs]
  have:=Boxed.new (((w.alloc (.cells #[.pointer (some ⟨ar,0,none⟩)] 52)).alloc (.cells #[chsV q] 126)).alloc (.cells #[.int .u64 0] 101)) 29 .nilIface
  rw [World.size_alloc,World.size_alloc,World.size_alloc] at this
  exact this
 have cx2:=q9.cell
 have ki:=H0.out.1.own _ _ _ _ (fun _=>False) H0.out.2.1 (Outside.of_all hn _) (fun _ h=>h.elim)
 have kj:=reader_at (H0.out.1.vol _ _ _ ki).1.vol H0.out.1.d12 H0.out.1.l4 H0.out.1.g4 H0.out.1.sum
 unfold chsV at hs
 rw [hs]
 have H4:=hide7 q9 qh qi qj hn ki kj
 clear hs q9 qh qi qj hn ki kj
 refine at_wide H4.out.2.2.2.2.2.2 ?_
 rintro e w5 ⟨rfl,hj,h8,qa⟩
 obtain ⟨r,hr⟩:∃ r,w4.heap.size+2=r:=⟨_,rfl⟩
 obtain ⟨g,hg⟩:∃ g,w4.heap.size+1=g:=⟨_,rfl⟩
 rw [hr] at hj ⊢
 rw [hg] at hj h8
 have qk:=qa.size
 have qm:=hj.lt
 have qn:=h8.lt
 obtain ⟨w6,q0⟩:∃ w6,w5.alloc (.cells #[.pointer (some ⟨r,0,none⟩)] 127)=w6:=⟨_,rfl⟩
 have hy:Below w5.heap.size w5 w6:=by rw [← q0];exact (Below.refl _ w5).alloc (Nat.le_refl _) _
 have h6:=qa.trans (hy.mono qk)
 have q4:Boxed w6 w5.heap.size 127 (.pointer (some ⟨r,0,none⟩)):=by rw [← q0];exact Boxed.new w5 _ _
 have k0:=hj.keep (hy.block _ qm)
 have h9:=h8.of_block (hy.block _ qn)
 have xm:w6.heap.size=w5.heap.size+1:=by rw [← q0];simp
 have cx6:w6.cell? ⟨w.heap.size,0,none⟩=some (.pointer (some ⟨ar,0,none⟩)):=(World.cell?_of_block (h6.block w.heap.size (by omega))).trans cx2
 have kk:w.heap.size+4≤g∧w.heap.size+4≤r∧r≠g∧g < w6.heap.size∧r < w6.heap.size∧w.heap.size+4≤w5.heap.size∧w5.heap.size < w6.heap.size∧r < w5.heap.size∧g < w5.heap.size:=by omega
 have H5:=hide6 k0 h9 h6 q4 kk q8
 clear hj h8 qa c0 cx2 k0 h9 h6 hy q4 xm qk qm qn hr hg q8 kk
 gi_wp2
 clear cx6 q0
 refine at_wide (arcStripes_any ar w6) ?_
 rintro e w' ⟨rfl,rfl⟩
 have h7:Boxed (w6.alloc (.cells #[.pointer (some ⟨ar,0,none⟩)] 52)) w6.heap.size 52 (.pointer (some ⟨ar,0,none⟩)):=Boxed.new w6 _ _
 have qb:(w6.alloc (.cells #[.pointer (some ⟨ar,0,none⟩)] 52)).heap.size=w6.heap.size+1:=by simp
 have k8:Below w6.heap.size w6 (w6.alloc (.cells #[.pointer (some ⟨ar,0,none⟩)] 52)):=(Below.refl _ w6).alloc (Nat.le_refl _) _
 obtain ⟨w7,qo⟩:∃ w7,w6.alloc (.cells #[.pointer (some ⟨ar,0,none⟩)] 52)=w7:=⟨_,rfl⟩
 have H7:=hide3 h7 qb k8
 clear h7 qb k8
 gi_wp2
 rw [qo] at H7
 clear qo
 obtain ⟨s1,s2,s3,s4,s5,s6,s7,s8,s9⟩:=H5.out.2.2.2.2.1
 have qb:=H7.out.2.1
 have qp:MdI w ar v q N ls w5.heap.size r g w7.heap.size Mv J (P ++ allSt os) [] w7:=by
  obtain ⟨x2,x3,x4,x5,hn,ki,_⟩:=H4.out
  obtain ⟨k0,h9,h6,q4,_,q8⟩:=H5.out
  have k8:=H7.out.2.2
  have k9:=h6.trans (k8.mono h6.size)
  have hk:∀ k,k < w4.heap.size→w7.heap[k]?=w4.heap[k]?:=fun k hk=>k9.block k hk
  exact ⟨(hk _ (by omega)).trans x2,(hk _ (by omega)).trans x3,⟨0,.inl rfl,(hk _ (by omega)).trans x4⟩,(hk _ (by omega)).trans x5,(k8.block _ s7).trans q4,⟨_,_,_,k0.keep (k8.block _ s5)⟩,⟨_,h9.of_block (k8.block _ s4)⟩,⟨_,_,H0.out.1.own _ _ _ _ (fun _=>False) ki (Outside.of_all k9 _) (fun _ h=>h.elim)⟩,(Outside.of_all hn _).trans (Outside.of_all k9 _),Nat.le_refl _⟩
 have qc:∀ {v:Value} {l:List Nat},Ints (fun k=>k < w.heap.size∧¬ Mv k) w v l→Ints (fun k=>(k < w.heap.size∧¬ Mv k)∨k=w6.heap.size) w v l:=fun ⟨ao,c,q1,q2,q3⟩=>⟨ao,c,q1,q2,fun hl=>by obtain ⟨b,off,r1,r2,r3⟩:=q3 hl;exact ⟨b,off,r1,.inl r2,r3⟩⟩
 have qq:=qc H0.out.2.2.2.2.1
 have qs:Cat (fun k=>(k < w.heap.size∧¬ Mv k)∨k=w6.heap.size) w ob os:=by
  obtain ⟨ao,c,q1,q2,q3⟩:=H0.out.2.2.2.2.2
  refine ⟨ao,c,q1,q2,fun hl=>?_⟩
  obtain ⟨b,off,r1,r2,r3,r4⟩:=q3 hl
  refine ⟨b,off,r1,.inl r2,r3,fun i hi=>?_⟩
  obtain ⟨sv,t1,t2,t3,t4⟩:=r4 i hi
  exact ⟨sv,t1,t2,t3,qc t4⟩
 have km:Below w.heap.size w w7:=by
  have hn:=H4.out.2.2.2.2.1
  have h6:=H5.out.2.2.1
  exact (hn.trans (h6.mono hn.size)).trans (H7.out.2.2.mono (by omega))
 have HI:=hide4 qp qq qs km
 clear qp qc qq qs km
 refine wpIn_rangeFunc_ownG rfl (by have:=HN.out;omega) (gf:=59) (lb:=#[.pointer (some ⟨w6.heap.size,0,none⟩)]) rfl trivial (enters_of Tryz.func59 (by kernel_rfl) rfl)
  (arcStripes_known (fun k=>(k < w.heap.size∧¬ Mv k)∨k=w6.heap.size) (m - 1) w6.heap.size ar v D L G t f nn pg ob off P os (.inr rfl) (.inl ⟨kz,H0.out.1.mvA⟩) w7 H7.out.1 (H0.out.2.2.1.keep (HI.out.2.2.2.block _ kz)) (HI.out.2.1.keep (KpS.of_below HI.out.2.2.2)) (HI.out.2.2.1.keep (KpS.of_below HI.out.2.2.2)))
  (fun h k=>h.trans k) (fun W l o o' hl _ _ _=>⟨by simp [World.putObj],fun k _ hk=>World.putObj_heap_other (by rcases hk with hk | hk <;> omega)⟩) (Below.refl _ _) (fun _=>rfl)
  (MdI w ar v q N ls w5.heap.size r g w7.heap.size Mv J (P ++ allSt os)) (fun _ _ _=>False) (MdI.own H0.out.1 (by omega) (by omega) (by omega) (by omega)) (fun _ _ _ _ _ h _ _=>h.elim) HI.out.1
  (fun x=>{ tmps:=#[.pointer (some ⟨ar,0,none⟩),.func (.func 36) #[] #[.pointer (some ⟨q,0,none⟩)],.pointer (some ⟨w.heap.size,0,none⟩),.pointer (some ⟨w.heap.size+1,0,none⟩),.pointer (some ⟨w.heap.size+1+1,0,none⟩),.pointer (some ⟨w.heap.size+1+1+1,0,none⟩),.pointer (some ⟨w5.heap.size,0,none⟩),.int .i64 (x.1:Nat),undef,undef,undef,.pointer (some ⟨ar,0,none⟩),.pointer (some ⟨ar,0,none⟩),.pointer (some ⟨ar,0,none⟩),.pointer (some ⟨v,0,none⟩),.pointer (some ⟨r,0,none⟩),.pointer (some ⟨ar,0,none⟩),.func (.func 59) #[] #[.pointer (some ⟨w6.heap.size,0,none⟩)],.int .i64 (x.1:Nat),undef,undef,undef,undef,undef,undef,undef,undef,undef,undef,undef,undef,undef,undef,undef,undef,undef,undef,undef,undef,undef,undef,undef,undef,undef,undef,undef,undef,undef,undef,undef,undef,undef,undef,undef,undef,undef,undef,undef,undef,undef,undef,undef],defers:=[] }) ?assign ?body ?done ?stop
 case assign=>
  intro l2 x X Kk hK
  unfold encSn encN
  gi_wp2
  exact hK
 case body=>
  rintro l2 pre x X hi qd
  obtain ⟨l,hl,h4⟩:=hi.b4
  obtain ⟨b0,gone,sp,kj⟩:=hi.rd
  obtain ⟨f0,kn⟩:=hi.row
  obtain ⟨A0,ko,kf⟩:=hi.arr
  have qv:=H0.out.1.whole X A0 ko r g b0 gone sp f0 x.1 kf x.2 (by omega) (by omega) s3 kj kn
  have c6:=hi.b6.cell
  have HX:=hide4 hi h4 hl qv
  have ya:=hi.size
  clear qd hi h4 hl kj kn kf qv
  gi_wp2
  refine at_round HX.out.2.2.2 ?_
  rintro e Y ⟨bd,g1,s1',f1,A1,hh,rfl,he,h5,qx,ka,kg⟩
  have hi:=HX.out.1
  have h4:=HX.out.2.1
  have hl:=HX.out.2.2.1
  have hM:=H0.out.1
  have ha:=H0.out.2.2.1
  have hq:=H0.out.2.2.2.1
  have hp:∀ k,w.heap.size≤k→k < X.heap.size→k≠r→k≠g→Y.heap[k]?=X.heap[k]?:=fun k h1 h2 h3 h4=>kg.block k h2 (fun q=>by rcases q with q | q | q;exact h3 q;exact h4 q;have:=hM.mvlt k q;omega)
  have k5:Outside Mv w Y:=hi.out.later kg (fun k h1 h2=>by rcases h2 with q | q | q;omega;omega;exact q)
  have d2:Boxed Y w.heap.size 52 _:=(hp _ (by omega) (by omega) (by omega) (by omega)).trans hi.b2
  have d3:Boxed Y (w.heap.size+1) 126 _:=(hp _ (by omega) (by omega) (by omega) (by omega)).trans hi.b3
  have d4:Boxed Y (w.heap.size+1+1) 101 _:=(hp _ (by omega) (by omega) (by omega) (by omega)).trans h4
  have d5:Boxed Y (w.heap.size+1+1+1) 29 _:=(hp _ (by omega) (by omega) (by omega) (by omega)).trans hi.b5
  have d6:Boxed Y w5.heap.size 127 _:=(hp _ (by omega) (by omega) (by omega) (by omega)).trans hi.b6
  have qy:=ha.keep (k5.block _ ha.lt hM.mvA)
  have qz:Boxed Y q 101 (.int .u64 S):=(k5.block _ hq.lt hM.mvq).trans hq
  obtain ⟨xc,xd,kp,kr,xe,ks⟩:=hM.vol _ _ _ ka
  have kv:=choose_any (w:=Y.drew) (q:=q) (S:=S) qz bd
  have kh:=writeShards_any (xc.below ((Below.refl _ Y).drew) (Nat.le_refl _)) (by rw [kp];exact H9) xd x.1 S (by rw [kr];exact hM.inb _ x.2) hM.S16 (fun i hi=>by rw [kp];exact hM.Sn i hi) xe (w:=Y.drew) (c:=N) (qx.keep (Nat.le_refl _) (fun _ _ _=>rfl)) (fun i hi=>by rw [hM.len _ x.2,← hM.nN];exact hM.Sn i hi) (by rw [hM.len _ x.2];exact Nat.le_refl _) (fun k hk=>by rw [kp] at hk;exact hM.mvlt k (hM.mvF k hk))
  rw [ks,kp] at kh
  have e2:=d2.cell
  have e3:=d3.cell
  have e4:=d4.cell
  have e5:=qy.cells.1
  unfold chsV at e3
  have fr4:=d4.frozen
  have qe:=d4.lt
  have xn:=hide2 hp kg
  have HY:=hide13 hi hl he h5 ka k5 d2 d3 d4 d5 d6 kv kh
  have yb:X.heap.size≤Y.heap.size:=kg.size
  clear hi h4 hl hM ha hq he h5 qx ka kg hp k5 d2 d3 d4 d5 d6 qy qz xc xd kp kr xe ks kv kh
  gi_wp2
  obtain ⟨hi,hl,he,h5,ka,k5,d2,d3,d4,d5,d6,kv,kh⟩:=HY.out
  have hM:=H0.out.1
  have h0:∀ k,w.heap.size≤k→¬ F.has p n k:=fun k hk q=>by have:=hM.mvlt _ (hM.mvF _ q);omega
  refine mend_region (by kernel_rfl) rfl (T:=F.has p n) d2 d3 d4 (Nat.lt_of_lt_of_le kz k5.size) e5 (h0 _ (by omega)) (h0 _ (by omega)) (h0 _ (by omega)) (fun q=>hM.mvA (hM.mvF _ q)) (or_run hl q7) kv kh rfl rfl rfl rfl rfl rfl ?_
  intro Z vs k6 q5 q6
  obtain ⟨x0,x1,x2,x3,x4,x5,x6,x7,x8,x9,xa,xb,rfl⟩:=list12 k6
  have HZ:=hide3 q5 q6 h0
  clear hi hl he h5 ka k5 d2 d3 d4 d5 d6 kv kh hM h0 q5 q6 k6 e2 e3 e4 e5 fr4
  simp only [Act.putFrom,Act.put,List.setIfInBounds_toArray,List.set_cons_succ,List.set_cons_zero]
  gi_wp2
  obtain ⟨hi,hl,he,h5,ka,k5,d2,d3,d4,d5,d6,_,_⟩:=HY.out
  obtain ⟨q5,q6,h0⟩:=HZ.out
  obtain ⟨hp,kg⟩:=xn.out
  have hM:=H0.out.1
  have hm:Outside (F.has p n) Y Z:=(Outside.drew Y).trans q6
  obtain ⟨W,hW⟩:∃ W,Z.setCell ⟨w.heap.size+1+1,0,none⟩ (.int .u64 (ls:Int))=W:=⟨_,rfl⟩
  rw [hW]
  have xf:∀ k,k≠w.heap.size+1+1→W.heap[k]?=Z.heap[k]?:=fun k hk=>by rw [← hW];exact blk_setCell_other _ _ _ _ hk
  have yc:Z.heap.size=W.heap.size:=by rw [← hW];simp [World.setCell]
  have xg:Outside (fun k=>k=w.heap.size+1+1) Z W:=⟨by rw [← hW];rfl,by rw [← hW];rfl,by rw [← hW];rfl,by omega,fun k _ hk=>xf k hk⟩
  have yd:=hm.size
  have k7:∀ k,w.heap.size≤k→k < Y.heap.size→k≠w.heap.size+1+1→W.heap[k]?=Y.heap[k]?:=fun k h1 h2 h3=>(xf k h3).trans (hm.block k h2 (h0 k h1))
  have kb:=hM.put _ _ _ _ _ ka x.2 hm q5
  have xo:=hM.own _ _ _ _ _ kb xg (fun k hk=>by omega)
  have hn:Boxed W (w.heap.size+1+1) 101 (.int .u64 (ls:Nat)):=by rw [← hW];exact (show Boxed Z (w.heap.size+1+1) 101 _ from (hm.block _ qe (h0 _ (by omega))).trans d4).set _
  have kc:Outside Mv w Z:=k5.trans (hm.mono fun k _ q=>hM.mvF k q)
  have xh:Outside Mv w W:=kc.later xg (fun k h1 h2=>by omega)
  refine ⟨⟨by omega,fun k o hk ho _=>?_⟩,⟨by omega,fun k hk hK=>?_⟩,?_⟩
  · exact (k7 k (by omega) (by have:=(Array.getElem?_eq_some_iff.1 ho).1;omega) (by omega)).trans ((hp k (by omega) (Array.getElem?_eq_some_iff.1 ho).1 (by omega) (by omega)).trans ho)
  · rcases hK with ⟨h1,h2⟩ | h1
    · exact (xh.block k h1 h2).trans (hi.out.block k h1 h2).symm
    · exact (k7 k (by omega) (by omega) (by omega)).trans (hp k (by omega) hk (by omega) (by omega))
  · exact ⟨(k7 _ (by omega) (by omega) (by omega)).trans d2,(k7 _ (by omega) (by omega) (by omega)).trans d3,⟨ls,.inr rfl,hn⟩,(k7 _ (by omega) (by omega) (by omega)).trans d5,(k7 _ (by omega) (by omega) (by omega)).trans d6,⟨_,_,_,he.keep (k7 _ (by omega) (by omega) (by omega))⟩,⟨_,h5.of_block (k7 _ (by omega) (by omega) (by omega))⟩,⟨_,_,xo⟩,xh,by omega⟩
 case done=>
  rintro D1 xs X xp xq hi hK
  obtain ⟨l,hl,h4⟩:=hi.b4
  have hM:=H0.out.1
  have hq:=H0.out.2.2.2.1
  have ha:=H0.out.2.2.1
  have xi:w.heap.size+4≤D1:=by omega
  have hE:MdE w ar q l D1 Mv J X:=⟨hi.b2,hi.b3,h4,hi.b5,hi.arr,hi.out,hK⟩
  have h0:∀ k,w.heap.size≤k→¬ Mv k:=fun k hk q=>by have:=hM.mvlt _ q;omega
  have kx:Calls Tryz.prog 51 #[.pointer (some ⟨ar,0,none⟩),.int .i64 (0:Nat),recV (.root D L G t f nn),chsV q] X.drew fun e Y=>e=.returned (.int .u64 ls)∧(∃ A1 hh,J Y A1 hh)∧Outside Mv X.drew Y:=by
   obtain ⟨A0,ko,kf⟩:=hi.arr
   exact (hM.root X.drew A0 ko (hM.own _ _ _ _ (fun _=>False) kf (Outside.drew X) (fun _ h=>h.elim)) (ha.keep (hi.out.block _ ha.lt hM.mvA)) ((hi.out.block _ hq.lt hM.mvq).trans hq)).mono fun e Y ⟨h1,h2,h3⟩=>⟨h1,h3,h2⟩
  have HE:=hide4 hE h0 hl kx
  clear hi hK h4 hl hM hq ha hE h0 kx xq
  gi_wp2
  obtain ⟨hE,h0,hl,kx⟩:=HE.out
  have ha:=H0.out.2.2.1
  have hM:=H0.out.1
  refine mend_root (by kernel_rfl) rfl (T:=Mv) (K:=fun Z=>∃ A1 hh,J Z A1 hh) hE.b2 hE.b3 hE.b4 (ha.keep (hE.out.block _ ha.lt hM.mvA)) (h0 _ (by omega)) (h0 _ (by omega)) (h0 _ (by omega)) hM.mvA (or_run hl q7) kx rfl rfl rfl ?_
  intro Z vs k6 kb kc
  obtain ⟨x0,x1,x2,x3,x4,x5,x6,x7,x8,x9,rfl⟩:=list10 k6
  have hc:=hE.next (ls:=ls) hM.mvlt hM.own xi kb kc
  obtain ⟨W,hW⟩:∃ W,Z.setCell ⟨w.heap.size+1+1,0,none⟩ (.int .u64 (ls:Nat))=W:=⟨_,rfl⟩
  rw [hW] at hc ⊢
  have ky:Calls Tryz.prog 51 #[.pointer (some ⟨ar,0,none⟩),.int .i64 (1:Nat),recV .filled,chsV q] W.drew fun e Y=>e=.returned (.int .u64 ls)∧(∃ A1 hh,J Y A1 hh)∧Outside Mv W.drew Y:=by
   obtain ⟨A0,ko,kf⟩:=hc.arr
   have hq:=H0.out.2.2.2.1
   exact (hM.fill W.drew A0 ko (hM.own _ _ _ _ (fun _=>False) kf (Outside.drew W) (fun _ h=>h.elim)) (ha.keep (hc.out.block _ ha.lt hM.mvA)) ((hc.out.block _ hq.lt hM.mvq).trans hq)).mono fun e Y ⟨h1,h2,h3⟩=>⟨h1,h3,h2⟩
  have c5:=hc.b5.cell
  have xv:=hide2 hc ky
  clear hE h0 hl kx ha hM k6 kb kc hc ky hW
  simp only [Act.putFrom,Act.put,List.setIfInBounds_toArray,List.set_cons_succ,List.set_cons_zero]
  gi_wp2
  clear c5
  obtain ⟨hc,ky⟩:=xv.out
  have ha:=H0.out.2.2.1
  have hM:=H0.out.1
  have h0:∀ k,w.heap.size≤k→¬ Mv k:=fun k hk q=>by have:=hM.mvlt _ q;omega
  refine mend_fill (by kernel_rfl) rfl (T:=Mv) (K:=fun Z=>∃ A1 hh,J Z A1 hh) hc.b2 hc.b3 hc.b4 (ha.keep (hc.out.block _ ha.lt hM.mvA)) (h0 _ (by omega)) (h0 _ (by omega)) (h0 _ (by omega)) hM.mvA (or_run (.inr rfl) q7) ky rfl rfl rfl ?_
  intro Z2 vs k6 kb kc
  obtain ⟨y0,y1,y2,y3,y4,y5,y6,rfl⟩:=list7 k6
  have hf:=hc.next (ls:=ls) hM.mvlt hM.own xi kb kc
  obtain ⟨W3,xj⟩:∃ W3,Z2.setCell ⟨w.heap.size+1+1,0,none⟩ (.int .u64 (ls:Nat))=W3:=⟨_,rfl⟩
  rw [xj] at hf ⊢
  have c4:=hf.b4.cell
  have f4:=hf.b4.frozen
  have c5:=hf.b5.cell
  have f5:=hf.b5.frozen
  have xx:=hide hf
  clear hc ky ha hM h0 k6 kb kc hf xj
  simp only [Act.putFrom,Act.put,List.setIfInBounds_toArray,List.set_cons_succ,List.set_cons_zero]
  gi_wp2
  gi_region
  gi_wp2
  have hf:=xx.out
  have hM:=H0.out.1
  obtain ⟨V1,kd⟩:∃ V1,W3.setCell ⟨w.heap.size+1+1,0,none⟩ (.int .u64 (ls:Nat))=V1:=⟨_,rfl⟩
  obtain ⟨V2,ke⟩:∃ V2,V1.setCell ⟨w.heap.size+1+1+1,0,none⟩ .nilIface=V2:=⟨_,rfl⟩
  have qf:∀ k,k≠w.heap.size+1+1→V1.heap[k]?=W3.heap[k]?:=fun k hk=>by rw [← kd];exact blk_setCell_other _ _ _ _ hk
  have qg:∀ k,k≠w.heap.size+1+1+1→V2.heap[k]?=V1.heap[k]?:=fun k hk=>by rw [← ke];exact blk_setCell_other _ _ _ _ hk
  have g4:Boxed V2 (w.heap.size+1+1) 101 (.int .u64 (ls:Nat)):=by
   have:=hf.b4.set (.int .u64 (ls:Nat))
   rw [kd] at this
   exact (qg _ (by omega)).trans this
  have g5:Boxed V2 (w.heap.size+1+1+1) 29 .nilIface:=by
   have:=(show Boxed V1 (w.heap.size+1+1+1) 29 .nilIface from (qf _ (by omega)).trans hf.b5).set .nilIface
   rwa [ke] at this
  have hz:W3.heap.size=V2.heap.size:=by rw [← ke,← kd];simp [World.setCell]
  have xy:Outside (fun k=>w.heap.size≤k) W3 V2:=⟨by rw [← ke,← kd];rfl,by rw [← ke,← kd];rfl,by rw [← ke,← kd];rfl,by omega,fun k _ hk=>(qg k (by omega)).trans (qf k (by omega))⟩
  have xz:V2.heap[D1]?=some (.deferred (some [])):=((qg _ (by omega)).trans (qf _ (by omega))).trans hf.dk
  rw [kd,ke]
  have xk:Outside (fun k=>w.heap.size≤k) W3 (V2.drew.putObj D1 (.deferred none)):=(xy.trans (Outside.drew V2)).trans ⟨rfl,rfl,rfl,by simp [World.putObj],fun k _ hk=>World.putObj_heap_other (by omega)⟩
  refine end_cell2 (b:=w.heap.size+1+1) (c:=w.heap.size+1+1+1) (t:=4) (u:=5) (Z:=V2.drew) Tryz.results35 rfl rfl rfl (load_set (s:=ls) (Z:=V2.drew) g4) (load_err (Z:=V2.drew) g5) xz (by omega) (by omega) ⟨rfl,?_,?_⟩
  · obtain ⟨A1,hh,y7⟩:=hf.arr
    exact ⟨A1,hh,hM.own _ _ _ _ _ y7 xk fun k hk=>hk⟩
  · exact hf.out.later xk (fun k h1 h2=>by omega)
 case stop=>
  rintro D1 cc pre X xp y8 hx hK
  exact hx.elim
end
end Go.Proofs.YthcgahldacpolaaGreatDoor
