import Derived.Test.YthcgahldacpolaaGreatDoorM18
import Derived.ChangeSame
import Derived.ChangeVars
import Derived.JoinedOf
import Derived.RowKit
import Derived.LaidLaws
import Derived.LaidHandle
import Derived.Stop.Joined
import Derived.Lib.SmallJoins
import Derived.Lib.SliceRun
set_option maxRecDepth 100000
set_option maxHeartbeats 8000000
namespace Go.Proofs.YthcgahldacpolaaGreatDoor
variable {K:List (List Nat)} {T:List (Nat×Nat×List Nat)} {l:List Nat} {base g N n:Nat} {v u:Value} {w w0:World}
section
open Go.RowKit Go.Deep Gf
def MRel (w0:World) (base D N:Nat) (M:Nat→List (List Nat)) (v i:Value) (wr:World):Prop:=
 ∃ k T,k≤N∧i=.int .i64 (k:Nat)∧Tab wr base v T∧Holds T D (M k)∧Below base w0 wr∧base≤wr.heap.size
theorem rmatrix_right (D L G:Nat) (hr:rightB D L G=true) (hD:D≤12) (hL:1≤L) (kp:L≤4) (hG:G≤4) (k7:D % L=0) (w:World) :
 Calls Tryz.prog 16 #[.agg #[.int .i64 D,.int .i64 L,.int .i64 G]] w fun e w'=>∃ v T,e=.returned (.tuple #[v,.int .i64 0])∧Tab w' (w.heap.size+1) v T∧Holds T D (matL D L G)∧Below w.heap.size w w':=by
 obtain ⟨i0,k8,k9,ka,kb⟩:=info_parts Tryz.infoBytes
 have ke:=fun g (hg:g < L)=>group_le (D:=D) k7 hg
 have hq:D / L≤D:=Nat.div_le_self _ _
 have hh:∀ g,localL D L g=localTo D (g*(D / L)) ((g+1)*(D / L)):=fun _=>rfl
 have e1:wrap64 ((D:Int) / (L:Int))=((D / L:Nat):Int):=by
  rw [← Int.natCast_ediv];exact wrap64_nat (by omega)
 obtain ⟨q,k5⟩:∃ q,q=D / L:=⟨_,rfl⟩
 rw [← k5] at e1 hq
 have HF:Hid (∀ g,localL D L g=localTo D (g*q) ((g+1)*q)):=by intro g;rw [k5];exact hh g
 have ki:Hid (∀ g,g < L→(g+1)*q≤D):=by intro g hg;rw [k5];exact ke g hg
 clear hh ke k5
 go_enter Tryz.func16,Tryz.ntmps16
 go_wp2_with fail
 refine (rright_any D L G _).mono ?_
 rintro e wa ⟨rfl,hi⟩
 rw [nblk_alloc] at hi
 have kf:=hi.size
 rw [nblk_alloc] at kf
 obtain ⟨p0,p1,p2⟩:=box_cells hi
 go_wp2_with fail
 go_loopw [5,6] (fun v i wr=>MRel (w.alloc (.cells #[.int .i64 D,.int .i64 L,.int .i64 G] 41)) (w.heap.size+1) D D (fun k=>[] ++ (List.range k).map (dataL D)) v i wr) (fun _ i _=>D - (intOf i).toNat)
 case atStart=>exact ⟨0,[],Nat.zero_le _,rfl,Tab.nil _ _,Holds.nil D,hi,kf⟩
 case round=>
  clear hi p0 p1 p2
  rename World=>wo
  obtain ⟨k,T,hk,rfl,hT,hH,h3,hs⟩:=hrel
  obtain ⟨p0,p1,p2⟩:=box_cells h3
  have HH:=hide hH
  have h4:=hH.length
  simp only [List.nil_append,List.length_map,List.length_range] at h4
  have h5:T.length≤20:=by omega
  clear h4 hH
  by_cases he:k < D
  · go_wp2_with (first
     | (at_make;refine wpList_mk _ rfl (.tmp 26) (.tmp 26) rfl D D rfl rfl rfl (by omega) ?_;intro w1 hB hb hz;clear hz;have hc:=hB.cell k (by simpa using he);have hf:=hB.frozen k;have h9:=hB.set k 1;have h0:=hb.setCell (p:=⟨wo.heap.size,k,none⟩) (by simp) (.int .u8 1))
     | (at_builtin;refine wpList_append_own _ rfl (.tmp 31) (.tmp 33) 57 rfl (w.heap.size+1) 33 i0 (.slice none 0 0) 1 24 Tryz.underlying57 k8 k9 ka kb rfl (by decide) _ T.length (T.map hdr) rfl ((hT.below h0).alloc _).own ⟨w1.heap.size,0,none⟩ 1 1 [.slice (some ⟨wo.heap.size,0,none⟩) D D] rfl rfl (one_new _ _ (by simp) _ _) (by simp [Value.oneCell']) (by unfold maxLen;omega) (by omega) (by rw [nblk_alloc];have:=h0.size;omega)  ?_;intro v' w2 h2 h1 hm))
    have hn:=Tab.append hT h0 hs (Nat.le_refl _) h9 (dataL_ok D k) (by omega) h1 h2
    have h7:=HH.out.push wo.heap.size (dataL D k)
    have h8:=below_append hT h3 h0 hs h1
    have hp:=h1.size
    have kg:=h0.size
    rw [nblk_alloc] at hp
    rw [List.append_assoc,← range_snoc] at h7
    have hx:=hide h7
    clear hT h2 h1 hm h9 h0 h3 h7
    go_roundw
    case rel=>exact ⟨k+1,T ++ [(wo.heap.size,D,dataL D k)],by omega,by go_num,hn,hx.out,h8,by omega⟩
    case measure=>simp [intOf];omega
  · have hy:D=k:=by omega
    clear he hk
    subst hy
    go_wp2_with fail
    go_loopw [5,9] (fun v i wr=>MRel (w.alloc (.cells #[.int .i64 D,.int .i64 L,.int .i64 G] 41)) (w.heap.size+1) D L (fun k=>(List.range D).map (dataL D) ++ (List.range k).map (localL D L)) v i wr) (fun _ i _=>L - (intOf i).toNat)
    case atStart=>exact ⟨0,T,Nat.zero_le _,rfl,hT,by dsimp only;rw [List.range_zero,List.map_nil,List.append_nil];exact HH.out,h3,hs⟩
    case round=>
     clear hT h3 p0 p1 p2 HH hs h5
     rename World=>wo
     obtain ⟨k,T,hk,rfl,hT,hH,h3,hs⟩:=hrel
     obtain ⟨p0,p1,p2⟩:=box_cells h3
     have HH:=hide hH
     have h4:=hH.length
     simp only [List.length_append,List.length_map,List.length_range] at h4
     have h5:T.length≤20:=by omega
     clear h4 hH
     by_cases he:k < L
     · have kr:=ki.out k he
       have kh:=HF.out k
       have kj:k*q≤(k+1)*q:=Nat.mul_le_mul_right _ (by omega)
       have e2:wrap64 ((k:Int)*(q:Int))=((k*q:Nat):Int):=by
        rw [← Int.natCast_mul];exact wrap64_nat (by omega)
       have e3:wrap64 (((k:Int)+1)*(q:Int))=(((k+1)*q:Nat):Int):=by
        have:((k:Int)+1)*(q:Int)=(((k+1)*q:Nat):Int):=by push_cast;rfl
        rw [this];exact wrap64_nat (by omega)
       generalize k*q=s at *
       generalize (k+1)*q=t at *
       have kk:=hide kh
       have E2:=hide e2
       have E3:=hide e3
       clear kh e2 e3
       go_wp2_with (at_make;refine wpList_mk _ rfl (.tmp 47) (.tmp 47) rfl D D rfl rfl rfl (by omega) ?_;intro w1 hB h0 hz;clear hz)
       rw [← localTo_start D s] at hB
       go_loopw [11] (fun i wi=>∃ j:Nat,s≤j∧j≤t∧i=.int .i64 j∧Brow wi wo.heap.size (localTo D s j)∧Below wo.heap.size wo wi) (fun i _=>t - (intOf i).toNat)
       case atStart=>exact ⟨s,Nat.le_refl _,kj,by rw [E2.out],hB,h0⟩
       case round=>
        clear hB h0
        obtain ⟨j,km,kn,rfl,h6,ha⟩:=hrel
        by_cases k6:j < t
        · have ht:(j:Int) < wrap64 (((k:Int)+1)*(q:Int)):=by rw [E3.out];omega
          have hc:=h6.cell j (by simp [localTo];omega)
          have hf:=h6.frozen j
          have k0:=h6.set j 1
          rw [localTo_step _ _ _ km] at k0
          have h8:=ha.setCell (p:=⟨wo.heap.size,j,none⟩) (by simp) (.int .u8 1)
          go_wp2
          go_roundw
          case rel=>exact ⟨j+1,by omega,by omega,by go_num,k0,h8⟩
          case measure=>simp [intOf];omega
        · have ht:¬ (j:Int) < wrap64 (((k:Int)+1)*(q:Int)):=by rw [E3.out];omega
          have kc:t=j:=by omega
          clear k6 kn E3
          subst kc
          rw [← kk.out] at h6
          have h9:=h6
          have h0:=ha
          clear h6 ha
          go_wp2_with (at_builtin;refine wpList_append_own _ rfl (.tmp 63) (.tmp 65) 57 rfl (w.heap.size+1) 33 i0 (.slice none 0 0) 1 24 Tryz.underlying57 k8 k9 ka kb rfl (by decide) _ T.length (T.map hdr) rfl ((hT.below h0).alloc _).own ⟨wr.heap.size,0,none⟩ 1 1 [.slice (some ⟨wo.heap.size,0,none⟩) D D] rfl rfl (one_new _ _ (by simp) _ _) (by simp [Value.oneCell']) (by unfold maxLen;omega) (by omega) (by rw [nblk_alloc];have:=h0.size;omega)  ?_;intro v' w2 h2 h1 hm)
          have hn:=Tab.append hT h0 hs (Nat.le_refl _) h9 (localL_ok D L k) (by omega) h1 h2
          have h7:=HH.out.push wo.heap.size (localL D L k)
          have h8:=below_append hT h3 h0 hs h1
          have hp:=h1.size
          have kg:=h0.size
          rw [nblk_alloc] at hp
          rw [List.append_assoc,← range_snoc] at h7
          have hx:=hide h7
          clear hT h2 h1 hm h9 h0 h3 h7
          go_roundw
          case rel=>exact ⟨k+1,T ++ [(wo.heap.size,D,localL D L k)],by omega,by go_num,hn,hx.out,h8,by omega⟩
          case measure=>simp [intOf];omega
     · have hy:L=k:=by omega
       clear he hk
       subst hy
       go_wp2_with fail
       go_loopw [5,12] (fun v i wr=>MRel (w.alloc (.cells #[.int .i64 D,.int .i64 L,.int .i64 G] 41)) (w.heap.size+1) D G (fun k=>((List.range D).map (dataL D) ++ (List.range L).map (localL D L)) ++ (List.range k).map (globalL D)) v i wr) (fun _ i _=>G - (intOf i).toNat)
       case atStart=>exact ⟨0,T,Nat.zero_le _,rfl,hT,by dsimp only;rw [List.range_zero,List.map_nil,List.append_nil];exact HH.out,h3,hs⟩
       case round=>
        clear hT h3 p0 p1 p2 HH hs h5
        rename World=>wo
        obtain ⟨k,T,hk,rfl,hT,hH,h3,hs⟩:=hrel
        obtain ⟨p0,p1,p2⟩:=box_cells h3
        have HH:=hide hH
        have h4:=hH.length
        simp only [List.length_append,List.length_map,List.length_range] at h4
        have h5:T.length≤20:=by omega
        clear h4 hH
        by_cases he:k < G
        · go_wp2_with (at_make;refine wpList_mk _ rfl (.tmp 74) (.tmp 74) rfl D D rfl rfl rfl (by omega) ?_;intro w1 hB h0 hz;clear hz)
          rw [← globalTo_start D k] at hB
          go_loopw [14] (fun i wi=>∃ j:Nat,j≤D∧i=.int .i64 j∧Brow wi wo.heap.size (globalTo D k j)∧Below wo.heap.size wo wi) (fun i _=>D - (intOf i).toNat)
          case atStart=>exact ⟨0,Nat.zero_le _,rfl,hB,h0⟩
          case round=>
           clear hB h0
           obtain ⟨j,hj,rfl,h6,ha⟩:=hrel
           have kd:=box_cells (h3.trans (ha.mono hs))
           obtain ⟨b0,b1,b2⟩:=kd
           by_cases k6:j < D
           · have hc:=h6.cell j (by simp [globalTo];omega)
             have hf:=h6.frozen j
             obtain ⟨ko,ks⟩:=xor_cell D k j hD (by omega) k6
             have k0:=h6.set j (gi ((D+k)^^^j))
             rw [globalTo_step] at k0
             have h8:=ha.setCell (p:=⟨wo.heap.size,j,none⟩) (by simp) (.int .u8 (gi ((D+k)^^^j)))
             generalize (D+k)^^^j=x at *
             have kv:(x:Int) < 256:=by omega
             go_wp2_with (go_at_call 28;refine (rinv_any x ko _).mono ?_;rintro e w' ⟨rfl,rfl⟩)
             go_roundw
             case rel=>exact ⟨j+1,by omega,by go_num,k0,h8⟩
             case measure=>simp [intOf];omega
           · have kc:D=j:=by omega
             clear k6 hj
             subst kc
             rw [globalTo_end] at h6
             have h9:=h6
             have h0:=ha
             clear h6 ha
             go_wp2_with (at_builtin;refine wpList_append_own _ rfl (.tmp 93) (.tmp 95) 57 rfl (w.heap.size+1) 33 i0 (.slice none 0 0) 1 24 Tryz.underlying57 k8 k9 ka kb rfl (by decide) _ T.length (T.map hdr) rfl ((hT.below h0).alloc _).own ⟨wr.heap.size,0,none⟩ 1 1 [.slice (some ⟨wo.heap.size,0,none⟩) D D] rfl rfl (one_new _ _ (by simp) _ _) (by simp [Value.oneCell']) (by unfold maxLen;omega) (by omega) (by rw [nblk_alloc];have:=h0.size;omega)  ?_;intro v' w2 h2 h1 hm)
             have hn:=Tab.append hT h0 hs (Nat.le_refl _) h9 (globalL_ok D k hD (by omega)) (by omega) h1 h2
             have h7:=HH.out.push wo.heap.size (globalL D k)
             have h8:=below_append hT h3 h0 hs h1
             have hp:=h1.size
             have kg:=h0.size
             rw [nblk_alloc] at hp
             rw [List.append_assoc,← range_snoc] at h7
             have hx:=hide h7
             clear hT h2 h1 hm h9 h0 h3 h7
             go_roundw
             case rel=>exact ⟨k+1,T ++ [(wo.heap.size,D,globalL D k)],by omega,by go_num,hn,hx.out,h8,by omega⟩
             case measure=>simp [intOf];omega
        · have hy:G=k:=by omega
          clear he hk
          subst hy
          go_wp2
          go_ret2
          refine ⟨_,rfl,T,hT,HH.out,?_⟩
          exact ((Below.refl _ _).alloc (Nat.le_refl _) _).trans (h3.mono (by omega))
end
section
open Go.ChangeShapes Go.WideShapes Go.RowKit
theorem Tryz.own:ownKnob Tryz.prog.godebug=none:=by kernel_rfl
theorem Tryz.et:Tryz.prog.globalNamed "errors.errorType"=some 0:=by kernel_rfl
theorem Tryz.rt:(Tryz.prog.cutTypes.find? (fun x=>x.1 == "internal/reflectlite.rtype")).map (fun x=>x.2)=some 110:=by kernel_rfl
theorem Tryz.oneRow:((List.range 332).filter fun t=>Tryz.prog.rowNamed t [101,114,114,111,114])=[29]:=by kernel_rfl
theorem Tryz.size:Tryz.prog.types.size=332:=by kernel_rfl
def globalLaid (w:World):Prop:=w.cell? ⟨0,0,none⟩=some (.iface 110 (.agg #[.pointer (some ⟨3,29,none⟩)]))
theorem handle_of_laid {W:World} (h:laidMetH Tryz.prog [("errors.errorType",Rows.laid_errors_errorType)] W):globalLaid W:=by
 have h':laidMet Tryz.prog [] W∧handlesMet Tryz.prog [("errors.errorType",Rows.laid_errors_errorType)] W:=h
 obtain ⟨name,u,ty,e1,e2,e3,e4,e5⟩:=h'.2 _ (List.mem_singleton.2 rfl)
 have en:name=[101,114,114,111,114]:=(Option.some.inj e1).symm
 subst en
 obtain rfl:=Option.some.inj (Tryz.rt.symm.trans e2)
 have hm:ty∈(List.range 332).filter fun t=>Tryz.prog.rowNamed t [101,114,114,111,114]:=List.mem_filter.2 ⟨List.mem_range.2 (by rw [← Tryz.size];exact e3),e4⟩
 rw [Tryz.oneRow] at hm
 obtain rfl:=List.mem_singleton.1 hm
 have hh:typeHandle Tryz.prog 29=.pointer (some ⟨3,29,none⟩):=by kernel_rfl
 rw [hh] at e5
 unfold globalLaid
 simpa using World.var?_cell Tryz.et e5 0
end
section
open Go.RowKit Go.Deep Gf
def encL (M:List (List Nat)) (D:List (List Nat)) (n:Nat):List (List Nat):=M.map fun row=>combTo row D n D.length
theorem wpList_mkRows (w:World) {ops:Array Oper} {rest:List Oper} {o:Oper} {a:Act} {Q:Exit→Act→World→Prop}
 (hg:o.guard=none) (l c:Operand) (h1:o.op=Op.makeSlice 57 l c) (C:Int) (n:Nat) (hl:a.eval l=.int .i64 C) (hc:a.eval c=.int .i64 C) (hC:C=(n:Int)) (hn:n≤1000000)
 (hK:∀ w',w'.rowIs w.heap.size 33 n (fun _=>.slice none 0 0)→Below w.heap.size w w'→w'.heap.size=w.heap.size+1→wpList Tryz.prog ops Q rest (a.put o.dst (.slice (some ⟨w.heap.size,0,none⟩) n n)) w') :
 wpList Tryz.prog ops Q (o :: rest) a w:=by
 refine wpList_plain hg fun K h2=>?_
 have h0:=run_make_row' (P:=Tryz.prog) 57 33 (.slice none 0 0) 24 Tryz.underlying57 Tryz.infoBytes rfl .i64 .i64 n (by omega) (by omega) w
 subst hC
 unfold Oper.wp
 simp [execOp,h1,hl,hc,h0,Result.andThen]
 exact h2 _ _ (hK _ (World.rowIs_made w _ n _) ((Below.refl _ _).alloc (Nat.le_refl _) _) (nblk_alloc _ _))
def shv (T:List (Nat×Nat×List Nat)) (i:Nat):Value:=if i < T.length then hdr (T.getD i (0,0,[])) else .slice none 0 0
structure Part (w:World) (base g N:Nat) (T:List (Nat×Nat×List Nat)):Prop where
 tab:w.rowIs g 33 N (shv T)
 row:∀ p∈T,base≤p.1∧Brow w p.1 p.2.2∧p.2.1≤p.2.2.length∧(p.2.1≤140737488355328∧p.2.2.length≤9223372036854775807)∧∀ x∈p.2.2,x < 256
 nodup:(T.map (fun p=>p.1)).Nodup
theorem Part.below {w':World} (h:Part w base g N T) (hb:Below w.heap.size w w'):Part w' base g N T:=
 ⟨h.tab.of_block (hb.block g h.tab.lt),fun p hp=>by obtain ⟨a,b,c⟩:=h.row p hp;exact ⟨a,b.below hb,c⟩,h.nodup⟩
theorem Part.push {b:Nat} (h:Part w base g N T) (hb:base≤b) (hB:Brow w b l) (hn:n≤l.length) (hl:l.length≤140737488355328) (hx:∀ x∈l,x < 256) (h1:∀ p∈T,p.1≠b) :
 Part (w.setCell ⟨g,T.length,none⟩ (.slice (some ⟨b,0,none⟩) n l.length)) base g N (T ++ [(b,n,l)]):=by
 have h0:∀ c m,Brow w c m→c≠g:=by
  intro c m hc e
  obtain ⟨x,hx,_⟩:=hc
  obtain ⟨y,hy,_⟩:=h.tab
  rw [e,hy] at hx
  simp at hx
 refine ⟨?_,fun p hp=>?_,?_⟩
 · refine (h.tab.set T.length (.slice (some ⟨b,0,none⟩) n l.length)).congr fun i hi=>?_
   unfold shv
   by_cases e:i=T.length
   · subst e;simp [hdr]
   · rw [if_neg e]
     by_cases e2:i < T.length
     · rw [if_pos e2,if_pos (by simp;omega)]
       simp [List.getElem?_append_left e2]
     · rw [if_neg e2,if_neg (by simp;omega)]
 · rcases List.mem_append.1 hp with hp | hp
   · obtain ⟨a1,a2,a3⟩:=h.row p hp
     exact ⟨a1,a2.other (h0 _ _ a2) _,a3⟩
   · simp at hp;subst hp
     exact ⟨hb,hB.other (h0 _ _ hB) _,hn,⟨by show n≤140737488355328;omega,by show l.length≤9223372036854775807;omega⟩,hx⟩
 · rw [List.map_append,List.nodup_append]
   refine ⟨h.nodup,by simp,?_⟩
   intro a ha c hc
   obtain ⟨q,hq,rfl⟩:=List.mem_map.1 ha
   simp at hc
   subst hc
   exact h1 q hq
theorem Part.done (h:Part w base g N T) (hN:N=T.length) (hg:base≤g) (hm:N≤maxLen):Tab w base (.slice (some ⟨g,0,none⟩) N N) T:=by
 subst hN
 refine ⟨⟨by simp,.inr ?_⟩,h.row,h.nodup⟩
 obtain ⟨c,hc,hs,hv⟩:=h.tab
 refine ⟨g,T.length,c,rfl,hg,hc,Nat.le_refl _,hm,by omega,?_⟩
 apply List.ext_getElem
 · simp;omega
 · intro i h1 h2
   simp at h1 h2
   have:=hv i h2
   rw [Array.getElem?_eq_getElem (by omega)] at this
   simp at this
   simp [this,shv,h2]
theorem Part.lt (h:Part w base g N T):g < w.heap.size:=h.tab.lt
def EcR (w:World) (B g N n:Nat) (M D:List (List Nat)) (i:Value) (wr:World):Prop:=
 ∃ k T,k≤N∧i=.int .i64 (k:Nat)∧Part wr B g N T∧Holds T n (encL (M.take k) D n)∧Below B w wr∧B≤wr.heap.size
def EnPost (w:World) (n:Nat) (M D:List (List Nat)) (x:Value) (e:Ending) (w':World):Prop:=∃ v T,e=.returned (.tuple #[v,x])∧Tab w' w.heap.size v T∧Holds T n (encL M D n)∧Below w.heap.size w w'
theorem Holds.at {D:Nat} {M:List (List Nat)} (h:Holds T D M) {i:Nat} (h1:i < T.length) (h2:i < M.length):T[i].2=(D,M[i]):=by
 have:=List.getElem_of_eq h (i:=i) (by simpa using h1)
 simpa using this
theorem matL_len (D L G:Nat):(matL D L G).length=D+L+G:=by simp [matL];omega
theorem matL_row (D L G:Nat) {i:Nat} (hi:i < (matL D L G).length):((matL D L G)[i]).length=D:=by
 have hm:(matL D L G)[i]∈matL D L G:=List.getElem_mem hi
 unfold matL at hm
 rcases List.mem_append.1 hm with hm | hm
 · rcases List.mem_append.1 hm with hm | hm
   · obtain ⟨j,_,e⟩:=List.mem_map.1 hm
     unfold matL
     rw [← e];simp [dataL]
   · obtain ⟨j,_,e⟩:=List.mem_map.1 hm
     unfold matL
     rw [← e];simp [localL]
 · obtain ⟨j,_,e⟩:=List.mem_map.1 hm
   unfold matL
   rw [← e];simp [globalL]
theorem encL_snoc (M D:List (List Nat)) (n k:Nat) (hk:k < M.length):encL (M.take (k+1)) D n=encL (M.take k) D n ++ [combTo M[k] D n D.length]:=by
 unfold encL
 rw [List.take_succ_eq_append_getElem hk,List.map_append];rfl
theorem encode_fit (D L G:Nat) (hr:rightB D L G=true) (qd:1≤D) (hD:D≤12) (hL:1≤L) (ks:L≤4) (hG:G≤4) (hy:D % L=0) (vd:Value) (Dt:List (List Nat)) (w:World) (hd:Rd w vd Dt) (h7:Dt.length=D) (h3:Fit Dt) :
 Calls Tryz.prog 141 #[.agg #[.int .i64 D,.int .i64 L,.int .i64 G],vd] w fun e w'=>EnPost w (Dt.getD 0 []).length (matL D L G) Dt .nilIface e w':=by
 have qe:(((Dt.length:Nat):Int) != (D:Int))=false:=by rw [h7];simp
 have h8:0 < Dt.length:=by omega
 obtain ⟨ao,c,rfl,hl,kv⟩:=id hd
 have kx:(Dt.getD 0 []).length≤4096:=by
  have:=(h3 0 h8)
  have h2:=this.2
  rw [this.1] at h2
  exact h2
 have he:∀ i (hi:i < Dt.length),(Dt[i]).length=(Dt.getD 0 []).length:=fun i hi=>(h3 i hi).1
 generalize hn:(Dt.getD 0 []).length=n at *
 have k0:=hide he
 have HF:=hide h3
 have k5:=hide h7
 clear kv hn he h3 h7
 go_enter Tryz.func141,Tryz.ntmps141
 go_wp2_with fail
 refine (matrix_right D L G hr hD hL ks hG hy _).mono ?_
 rintro e wa ⟨v,T,rfl,hT,hH,hj⟩
 rw [nblk_alloc] at hT hj
 have ky:=hj.size
 rw [nblk_alloc] at ky
 obtain ⟨p0,p1,p2⟩:=box_cells hj
 have h4:Below w.heap.size w wa:=((Below.refl _ _).alloc (Nat.le_refl _) _).trans (hj.mono (by omega))
 have kc:=hd.mono h4
 go_wp2_with fail
 refine (even_any _ Dt _ kc h8).mono ?_
 rintro e wb ⟨r,rfl,kd,rfl⟩
 obtain rfl:r=true:=kd.2 HF.out
 obtain ⟨mo,mcap,rfl,ke⟩:=hT.slice
 have hf:=hH.length
 rw [matL_len] at hf
 obtain ⟨mg,rfl⟩:=ke (by intro e;rw [e] at hf;simp at hf;omega)
 have kz:T.length≤20:=by omega
 have qf:=hide hf
 clear hf ke kd
 go_wp2_with (at_make;refine wpList_mkRows _ rfl (.tmp 31) (.tmp 31) rfl _ T.length rfl rfl rfl (by omega) ?_;intro wc hg k6 hz;clear hz)
 have kf:Part wc wb.heap.size wb.heap.size T.length []:=⟨hg.congr (fun i _=>by simp [shv]),fun p hp=>by simp at hp,by simp⟩
 have kg:=k6.size
 generalize hM:matL D L G=M at *
 have HM:Hid (∀ i (hi:i < M.length),(M[i]).length=D):=by intro i hi;subst hM;exact matL_row D L G hi
 have HH:=hide hH
 have q0:=hide hM
 clear hg hM hH p0 p1 p2
 go_loopw [35] (fun i wr=>EcR wb wb.heap.size wb.heap.size T.length n M Dt i wr) (fun i _=>T.length - (intOf i).toNat)
 case atStart=>exact ⟨0,[],Nat.zero_le _,rfl,kf,rfl,k6,kg⟩
 case round=>
  clear kf k6 kg
  rename World=>wo
  obtain ⟨k,S,hk,rfl,hP,ha,hc,q1⟩:=hrel
  have h5:=HH.out.length
  have hm:=ha.length
  unfold encL at hm
  rw [List.length_map,List.length_take] at hm
  by_cases hh:k < T.length
  · have h9:k < M.length:=by omega
    have k7:=hT.below hc
    have kh:=kc.mono hc
    have hq:=k7.cell_at hh
    have h0:=k7.row_at hh
    have k8:=HH.out.at hh h9
    have k9:=HM.out k h9
    obtain ⟨⟨rb,rn,rl⟩,ki⟩:∃ p,p=T[k]:=⟨_,rfl⟩
    rw [← ki] at hq h0 k8
    simp only [hdr,Prod.mk.injEq] at hq h0 k8
    obtain ⟨rfl,rfl⟩:=k8
    rw [List.take_of_length_le (by omega)] at h0
    rw [k9] at hq h0
    have kj:S.length=k:=by omega
    have q2:=hP.tab.cell (i:=k) hh
    have q3:=hP.tab.frozen k
    have h6:=encL_snoc M Dt n k h9
    have kk:=hide h6
    have km:=hide ha
    have q4:=hide kj
    have ka:=hide k9
    clear h6 ha kj k9 h5 hm ki
    go_wp2_with fail
    refine (combine_any _ _ M[k] Dt n wo (by rw [ka.out] at *;exact h0) kh kx k0.out (by rw [ka.out,k5.out]) h8).mono ?_
    rintro e w2 ⟨b2,rfl,qg,kn,h1⟩
    have hs:=hP.below h1
    have q5:=hs.tab.cell (i:=k) hh
    have q6:=hs.tab.frozen k
    have qh:=h1.size
    have qi:=hP.lt
    have ko:=hs.push (n:=n) (by omega) kn (by rw [combTo_len];omega) (by rw [combTo_len];omega) (combTo_lt _ _ (fun x hx=>h0.lt x hx) _ _) (fun p hp=>by have:=(hP.row p hp).2.1.lt;omega)
    rw [combTo_len,q4.out] at ko
    have q7:=(hc.trans (h1.mono q1)).setCell (p:=⟨wb.heap.size,k,none⟩) (Nat.le_refl _) (.slice (some ⟨b2,0,none⟩) n n)
    have kb:=km.out.push b2 (combTo M[k] Dt n Dt.length)
    rw [← kk.out] at kb
    have q8:=hide kb
    generalize shv S k=ov at *
    clear hP hs kn h1 hc h0 hq k7 kh kb q2 q3 kk km ka
    go_wp2
    go_roundw
    case rel=>exact ⟨k+1,_,by omega,by go_num,ko,q8.out,q7,by rw [nblk_setCell];omega⟩
    case measure=>simp [intOf];omega
  · have q9:k=T.length:=by omega
    have kp:k=M.length:=by omega
    have qa:Holds S n (encL M Dt n):=by rw [kp,List.take_length] at ha;exact ha
    have kr:=hP.done (by omega) (Nat.le_refl _) (by unfold maxLen;omega)
    have qb:=h4.trans (hc.mono h4.size)
    have qc:=kr.weaken (base':=w.heap.size) h4.size
    clear ha hP hc kr q9 kp h5 hm
    go_wp2
    go_ret2
    exact ⟨_,S,rfl,qc,by rw [q0.out];exact qa,qb⟩
end
section
open Gf
def keepTo (M:List (List Nat)) (lost k:Nat):List (List Nat):=((List.range k).filter (fun i=>decide (lost / 2^i % 2=0))).map (fun i=>M.getD i [])
theorem keep_in (M:List (List Nat)) (lost k:Nat) (h:lost / 2^k % 2=0):keepTo M lost (k+1)=keepTo M lost k ++ [M.getD k []]:=by
 simp [keepTo,List.range_succ,h]
theorem keep_out (M:List (List Nat)) (lost k:Nat) (h:lost / 2^k % 2≠0):keepTo M lost (k+1)=keepTo M lost k:=by
 simp [keepTo,List.range_succ,h]
theorem keep_mem (M:List (List Nat)) (lost k:Nat) (hk:k≤M.length):∀ l∈keepTo M lost k,l∈M:=by
 intro l hl
 simp [keepTo] at hl
 obtain ⟨i,⟨hi,_⟩,rfl⟩:=hl
 rw [List.getElem?_eq_getElem (by omega)]
 exact List.getElem_mem _
theorem keep_len (M:List (List Nat)) (lost k:Nat):(keepTo M lost k).length≤k:=by
 unfold keepTo
 rw [List.length_map]
 exact Nat.le_trans (List.length_filter_le _ _) (by simp)
theorem rem_iff (T:List (List Nat)) (v:Nat→Nat):Rem T 0 v↔∃ l∈T,v=vec l:=by
 constructor
 · rintro ⟨i,hi,_,rfl⟩;exact ⟨_,List.getElem_mem hi,rfl⟩
 · rintro ⟨l,hl,rfl⟩
   obtain ⟨i,hi,rfl⟩:=List.mem_iff_getElem.1 hl
   exact ⟨i,hi,Nat.zero_le _,rfl⟩
theorem rem_keep (M:List (List Nat)) (lost k:Nat) (v:Nat→Nat):Rem (keepTo M lost k) 0 v↔∃ i,i < k∧lost / 2^i % 2=0∧v=vec (M.getD i []):=by
 rw [rem_iff]
 constructor
 · rintro ⟨l,hl,rfl⟩
   simp only [keepTo,List.mem_map,List.mem_filter,List.mem_range,decide_eq_true_eq] at hl
   obtain ⟨i,⟨hi,hb⟩,rfl⟩:=hl
   exact ⟨i,hi,hb,rfl⟩
 · rintro ⟨i,hi,hb,rfl⟩
   refine ⟨_,?_,rfl⟩
   simp only [keepTo,List.mem_map,List.mem_filter,List.mem_range,decide_eq_true_eq]
   exact ⟨i,⟨hi,hb⟩,rfl⟩
def cnt (lost n:Nat):Nat:=(List.range n).countP (fun i=>decide (lost / 2^i % 2=1))
theorem cnt_succ (lost n:Nat):cnt lost (n+1)=cnt lost n+(if lost / 2^n % 2=1 then 1 else 0):=by
 simp [cnt,List.range_succ,List.countP_append,List.countP_cons]
theorem vec_data (D i:Nat) (hi:i < D):vec (dataL D i)=unitV i:=by
 funext j
 unfold vec dataL unitV
 by_cases e:j=i
 · subst e;simp [hi]
 · rw [if_neg e]
   simp [Ne.symm e,List.getElem?_replicate]
   split <;> rfl
theorem vec_global (D i j:Nat):vec (globalL D i) j=if j < D then gi ((D+i)^^^j) else 0:=by
 unfold vec globalL
 by_cases h:j < D
 · simp [h]
 · simp [h]
theorem mat_data (D L G i:Nat) (hi:i < D):(matL D L G).getD i []=dataL D i:=by
 simp [matL,List.getElem?_append,hi]
theorem mat_global (D L G i:Nat) (hi:i < G):(matL D L G).getD (D+L+i) []=globalL D i:=by
 have e1:¬ D+L+i < D:=by omega
 have e2:¬ D+L+i - D < L:=by omega
 have e3:D+L+i - D - L=i:=by omega
 simp [matL,List.getElem?_append,e1,e2,e3,hi]
theorem clearV {R:(Nat→Nat)→Prop} (hR:∀ r,R r→byteV r) {v:Nat→Nat} (hv:Span R v):∀ K:List Nat,(∀ k∈K,Span R (unitV k))→Span R (fun j=>if j∈K then 0 else v j)
 | [],_=>by simpa using hv
 | k :: K,h=>by
  by_cases hk:k∈K
  · have e:(fun j=>if j∈k :: K then 0 else v j)=fun j=>if j∈K then 0 else v j:=by
     funext j
     by_cases e1:j=k
     · subst e1;simp [hk]
     · simp [e1]
    rw [e];exact clearV hR hv K (fun j hj=>h j (List.mem_cons_of_mem _ hj))
  · have hb:=hv.byte k
    have t:=Span.add hR (clearV hR hv K (fun j hj=>h j (List.mem_cons_of_mem _ hj))) hb (h k List.mem_cons_self)
    have e:addV (fun j=>if j∈K then 0 else v j) (v k) (unitV k)=fun j=>if j∈k :: K then 0 else v j:=by
     funext j
     show (if j∈K then 0 else v j)^^^gm (v k) (if j=k then 1 else 0)=_
     by_cases e1:j=k
     · subst e1
       rw [if_neg hk,if_pos rfl,gm_one _ hb,Nat.xor_self,if_pos List.mem_cons_self]
     · rw [if_neg e1,gm_zero,Nat.xor_zero]
       by_cases e2:j∈K
       · rw [if_pos e2,if_pos (List.mem_cons_of_mem _ e2)]
       · rw [if_neg e2,if_neg (by simp [e1,e2])]
    rwa [e] at t
theorem any_full (D L G lost:Nat) (hD:D≤12) (hG:G≤4) (hR:∀ r,Rem (keepTo (matL D L G) lost (D+L+G)) 0 r→byteV r) (hc:cnt lost (D+L+G)≤G) :
 Full (Rem (keepTo (matL D L G) lost (D+L+G)) 0) 0 D:=by
 have kd:∀ j,j < D→lost / 2^j % 2=0→Span (Rem (keepTo (matL D L G) lost (D+L+G)) 0) (unitV j):=by
  intro j hj hb
  have hr:Rem (keepTo (matL D L G) lost (D+L+G)) 0 (unitV j):=(rem_keep _ _ _ _).2 ⟨j,by omega,hb,by rw [mat_data D L G j hj,vec_data D j hj]⟩
  exact Span.mem (unitV_byte j) hr
 have h2:cnt lost (D+L+G)=cnt lost D+((List.range L).countP (fun i=>decide (lost / 2^(D+i) % 2=1))+(List.range G).countP (fun i=>decide (lost / 2^(D+L+i) % 2=1))):=by
  unfold cnt
  rw [List.range_add,List.countP_append,List.range_add,List.countP_append,List.countP_map,List.countP_map,Nat.add_assoc]
  rfl
 have hg:=List.length_eq_countP_add_countP (fun i=>decide (lost / 2^(D+L+i) % 2=1)) (l:=List.range G)
 rw [List.length_range] at hg
 have ng:(List.range G).countP (fun i=>decide ¬ (decide (lost / 2^(D+L+i) % 2=1))=true)=((List.range G).filter (fun i=>decide (lost / 2^(D+L+i) % 2=0))).length:=by
  rw [← List.countP_eq_length_filter]
  congr 1
  funext i
  have:=Nat.mod_two_eq_zero_or_one (lost / 2^(D+L+i))
  rcases this with h | h <;> simp [h]
 have nl:cnt lost D=((List.range D).filter (fun i=>decide (lost / 2^i % 2=1))).length:=by rw [cnt,List.countP_eq_length_filter]
 refine Full.units hR fun j hj=>?_
 rcases Nat.mod_two_eq_zero_or_one (lost / 2^j) with hb | hb
 · exact kd j hj hb
 · refine cauchy _ hR ((List.range D).filter (fun i=>decide (lost / 2^i % 2=1))) (((List.range G).filter (fun i=>decide (lost / 2^(D+L+i) % 2=0))).map (fun i=>D+i)) (fun _=>1)
    (List.nodup_range.filter _) ?_ ?_ ?_ ?_ ?_ j (by simp [hj,hb])
   · exact List.Pairwise.map _ (fun a b h=>by omega) (List.nodup_range.filter _)
   · rw [List.length_map,← nl,← ng];omega
   · intro i hi
     simp at hi
     exact ⟨by omega,by decide,by decide⟩
   · intro x hx
     simp at hx
     obtain ⟨i,⟨hi,_⟩,rfl⟩:=hx
     refine ⟨by omega,fun k hk=>?_⟩
     simp at hk
     omega
   · intro x hx
     simp only [List.mem_map,List.mem_filter,List.mem_range,decide_eq_true_eq] at hx
     obtain ⟨i,⟨hi,h1⟩,rfl⟩:=hx
     have hr:Rem (keepTo (matL D L G) lost (D+L+G)) 0 (vec (globalL D i)):=(rem_keep _ _ _ _).2 ⟨D+L+i,by omega,h1,by rw [mat_global D L G i hi]⟩
     have t:=clearV hR (Span.mem (hR _ hr) hr) ((List.range D).filter (fun i=>decide (lost / 2^i % 2=0))) (fun k hk=>by
      simp only [List.mem_filter,List.mem_range,decide_eq_true_eq] at hk
      exact kd k hk.1 hk.2)
     have e:(fun j=>if j∈(List.range D).filter (fun i=>decide (lost / 2^i % 2=0)) then 0 else vec (globalL D i) j)=cauV ((List.range D).filter (fun i=>decide (lost / 2^i % 2=1))) (fun _=>1) (D+i):=by
      funext k
      unfold cauV
      rw [vec_global]
      simp only [List.mem_filter,List.mem_range,decide_eq_true_eq]
      by_cases hk:k < D
      · rcases Nat.mod_two_eq_zero_or_one (lost / 2^k) with h0 | h0
        · rw [if_pos ⟨hk,h0⟩,if_neg (by omega)]
        · rw [if_neg (by omega),if_pos hk,if_pos ⟨hk,h0⟩]
          have:=gi_lt (a:=(D+i)^^^k) (xlt (by omega) (by omega))
          rw [gm_comm (a:=1) (by decide) this,gm_one _ this]
      · rw [if_neg (by omega),if_neg hk,if_neg (by omega)]
     rwa [e] at t
end
section
open Go.RowKit Go.Deep Gf
theorem bit_u64 (lost k:Nat) (hl:lost < 18446744073709551616):bits .and .u64 ((lost:Int) / 2^k) 1=((lost / 2^k % 2:Nat):Int):=by
 have c:(lost:Int) / 2^k=((lost / 2^k:Nat):Int):=by simp
 have h:lost / 2^k < 18446744073709551616:=Nat.lt_of_le_of_lt (Nat.div_le_self _ _) hl
 have e:=u64_and_nat (lost / 2^k) 1 h (by decide)
 rw [and1] at e
 rw [c];exact e
def Rl (w0 w:World) (v:Value) (K:List (List Nat)):Prop:=
 ∃ xs:List Value,xs.length=K.length∧(∀ i (h:i < xs.length) (h':i < K.length),Bs w0 xs[i] K[i])∧w.ownsRow w0.heap.size 33 1 v xs.length xs∧Below w0.heap.size w0 w
theorem Rl.nil (w:World):Rl w w (.slice none 0 0) []:=⟨[],rfl,fun i h=>absurd h (by simp),World.ownsRow_nil _ _ _ _,Below.refl _ _⟩
theorem Rl.rd (h:Rl w0 w v K) (hl:K.length≤100000):Rd w v K:=by
 obtain ⟨xs,h3,hB,h2,hb⟩:=h
 rcases h2.2 with ⟨h0,h1⟩ | ⟨g,cap,cur,e1,e2,e3,e4,e5,e6,e7⟩
 · have:K=[]:=List.eq_nil_of_length_eq_zero (by omega)
   subst this
   exact ⟨none,0,h0,by simp,fun h=>absurd rfl h⟩
 · refine ⟨some ⟨g,0,none⟩,cap,by rw [e1,h3],by omega,fun _=>⟨g,0,rfl,fun i hi=>?_⟩⟩
   have h4:i < xs.length:=by omega
   have:=h2.cells (g:=g) (by rw [e1];rfl) i xs[i] (by simp [h4])
   rw [add0] at this
   exact ⟨xs[i],by rw [Nat.zero_add];exact this,(hB i h4 hi).mono hb⟩
theorem Rl.push {w1 w2:World} {v':Value} {o:Obj} {xs:List Value} (h0:xs.length=K.length) (hB:∀ i (h:i < xs.length) (h':i < K.length),Bs w0 xs[i] K[i])
 (h2:w.ownsRow w0.heap.size 33 1 v xs.length xs) (hb:Below w0.heap.size w0 w) (hw:w1=w.alloc o) (hu:Bs w0 u l)
 (hg:w1.grownBy w2 v.ownBlock) (h1:w2.ownsRow w0.heap.size 33 1 v' (xs.length+1) (xs ++ [u])):Rl w0 w2 v' (K ++ [l]):=by
 subst hw
 refine ⟨xs ++ [u],by simp [h0],fun i h h'=>?_,by simpa using h1,(hb.alloc hb.size o).grown hg (by rw [nblk_alloc];have:=hb.size;omega) fun k hk=>(h2.lt k hk).1⟩
 by_cases hi:i < xs.length
 · rw [List.getElem_append_left hi,List.getElem_append_left (by omega)]
   exact hB i hi (by omega)
 · have e:i=xs.length:=by simp at h;omega
   subst e
   rw [List.getElem_append_right (Nat.le_refl _),List.getElem_append_right (by omega)]
   simpa [h0] using hu
theorem Bs.one (h:Bs w u l):u.oneCell'=true:=by
 obtain ⟨ao,c,rfl,_⟩:=h
 rfl
def KpR (w:World) (M:List (List Nat)) (lost:Nat) (v i:Value) (wr:World):Prop:=∃ k:Nat,k≤M.length∧i=.int .i64 k∧Rl w wr v (keepTo M lost k)
theorem kept_any (vm:Value) (M:List (List Nat)) (lost:Nat) (w:World) (hM:Rd w vm M) (hl:lost < 18446744073709551616) (hm:M.length≤64) :
 Calls Tryz.prog 75 #[vm,.int .u64 lost] w fun e w'=>∃ v,e=.returned v∧Rl w w' v (keepTo M lost M.length):=by
 obtain ⟨i0,he,hf,hg,hh⟩:=info_parts Tryz.infoBytes
 rcases hM.cases with ⟨rfl,ao,c,rfl⟩ | ⟨b,off,c,rfl,_,hc⟩
 · go_enter Tryz.func75,Tryz.ntmps75
   go_wp2
   refine wp_loop_rounds 1 ?_
   rw [rounds_succ]
   go_wp2
   go_ret
   exact ⟨_,rfl,Rl.nil _⟩
 · clear hM
   go_enter Tryz.func75,Tryz.ntmps75
   go_wp2
   go_loopw [5,10] (fun v i wr=>KpR w M lost v i wr) (fun _ i _=>M.length - (intOf i).toNat)
   case atStart=>exact ⟨0,Nat.zero_le _,rfl,Rl.nil _⟩
   case round=>
    rename World=>wo
    obtain ⟨k,hk,rfl,hR⟩:=hrel
    by_cases h8:k < M.length
    · obtain ⟨u,hu,hB⟩:=hc k h8
      have hi:wo.cell? ⟨b,off+k,none⟩=some u:=by rw [hR.choose_spec.2.2.2.cell (block_lt_of_cell hu)];exact hu
      obtain ⟨au,cu,rfl,_⟩:=id hB
      have h5:=bit_u64 lost k hl
      have HK:=hide (keep_len M lost k)
      have HC:=hide hc
      have HB:=hide hB
      have HU:=hide hu
      have h6:M.getD k []=M[k]:=by simp [h8]
      have hj:=hide h6
      clear hc hB hu h6
      by_cases hz:lost / 2^k % 2=0
      · rw [hz] at h5
        have hn:=hide (keep_in M lost k hz)
        clear hz
        obtain ⟨xs,h3,hX,h4,h7⟩:=hR
        have HX:=hide hX
        have hp:=hide h3
        have hy:xs.length≤64:=by rw [h3];exact Nat.le_trans HK.out (by omega)
        have hs:=h7.size
        clear hX h3
        go_wp2_with (at_builtin;refine wpList_append_own _ rfl (.tmp 20) (.tmp 22) 57 rfl w.heap.size 33 i0 (.slice none 0 0) 1 24 Tryz.underlying57 he hf hg hh rfl (by decide) _ xs.length xs rfl (ownsRow_below h4 ((Below.refl _ _).alloc (Nat.le_refl _) _)) ⟨wo.heap.size,0,none⟩ 1 1 [.slice au (M[k]).length cu] rfl rfl (one_new _ _ rfl _ _) (by intro q hq;simp at hq;rw [hq];exact HB.out.one) (by unfold maxLen;omega) (by omega) (by rw [nblk_alloc];omega) ?_;intro v' w2 h0 h2 hr)
        have h9:=Rl.push hp.out HX.out h4 h7 rfl HB.out h2 h0
        rw [← hj.out,← hn.out] at h9
        clear h4 h0 h2 hr h7 hi
        go_wp2
        go_roundw
        case rel=>exact ⟨k+1,by omega,by go_num,h9⟩
        case measure=>simp [intOf];omega
      · have h1:lost / 2^k % 2=1:=by omega
        rw [h1] at h5
        have hx:=hide (keep_out M lost k hz)
        clear hz h1
        have HR:=hide hR
        clear hR
        go_wp2
        go_roundw
        case rel=>exact ⟨k+1,by omega,by go_num,by rw [hx.out];exact HR.out⟩
        case measure=>simp [intOf];omega
    · have ha:k=M.length:=by omega
      rw [ha] at hR
      clear hc ha
      go_wp2
      go_ret
      exact ⟨_,rfl,hR⟩
end
section
open Go.RowKit Go.Deep Gf
def swp (T:List (Nat×Nat×List Nat)) (p r:Nat):List (Nat×Nat×List Nat):=(T.set p (T.getD r (0,0,[]))).set r (T.getD p (0,0,[]))
theorem swp_len (T:List (Nat×Nat×List Nat)) (p r:Nat):(swp T p r).length=T.length:=by simp [swp]
theorem swp_get (T:List (Nat×Nat×List Nat)) (p r i:Nat) (hp:p < T.length) (hr:r < T.length) (hi:i < T.length) (h':i < (swp T p r).length) :
 (swp T p r)[i]=if i=r then T[p] else if i=p then T[r] else T[i]:=by
 have e1:T.getD p (0,0,[])=T[p]:=by simp [hp]
 have e2:T.getD r (0,0,[])=T[r]:=by simp [hr]
 apply Option.some.inj
 rw [← List.getElem?_eq_getElem h']
 unfold swp
 rw [e1,e2,List.getElem?_set,List.getElem?_set]
 by_cases c1:r=i
 · subst c1;simp [hr]
 · by_cases c2:p=i
   · subst c2;simp [hp,c1,Ne.symm c1]
   · simp [c1,c2,Ne.symm c1,Ne.symm c2,hi]
theorem swp_mem (T:List (Nat×Nat×List Nat)) (p r:Nat) (hp:p < T.length) (hr:r < T.length):∀ x∈swp T p r,x∈T:=by
 intro x hx
 obtain ⟨i,hi,rfl⟩:=List.mem_iff_getElem.1 hx
 have h0:i < T.length:=by rw [swp_len] at hi;exact hi
 rw [swp_get T p r i hp hr h0]
 split
 · exact List.getElem_mem _
 · split
   · exact List.getElem_mem _
   · exact List.getElem_mem _
theorem Tab.swap {B cap:Nat} (h:Tab w B (.slice (some ⟨g,0,none⟩) n cap) T) {p r:Nat} (hp:p < T.length) (hr:r < T.length) :
 Tab ((w.setCell ⟨g,p,none⟩ (hdr T[r])).setCell ⟨g,r,none⟩ (hdr T[p])) B (.slice (some ⟨g,0,none⟩) n cap) (swp T p r):=by
 obtain ⟨e0,h2⟩:=h.own
 have h6:∀ q∈T,q.1≠g:=fun q hq e=>own_ne h.own (h.row q hq).2.1 (by rw [e];rfl)
 have h5:∀ q∈T,Brow ((w.setCell ⟨g,p,none⟩ (hdr T[r])).setCell ⟨g,r,none⟩ (hdr T[p])) q.1 q.2.2:=fun q hq=>
  ((h.row q hq).2.1.other (a:=⟨g,p,none⟩) (h6 q hq) _).other (a:=⟨g,r,none⟩) (h6 q hq) _
 refine ⟨⟨by simp [swp],?_⟩,fun q hq=>?_,?_⟩
 · rcases h2 with ⟨h0,_⟩ | ⟨g',cap',cur,e1,e2,e3,e4,e5,e6,e7⟩
   · simp at h0
   · simp at e1
     obtain ⟨rfl,rfl,rfl⟩:=e1
     refine .inr ⟨g,cap,(cur.setIfInBounds p (hdr T[r])).setIfInBounds r (hdr T[p]),by rw [swp_len],e2,?_,by rw [swp_len];exact e4,e5,by simpa using e6,?_⟩
     · simp [World.setCell,Array.getElem?_modify,e3]
     · rw [swp_len]
       simp only [Array.toList_setIfInBounds]
       rw [List.take_set,List.take_set,e7]
       apply List.ext_getElem
       · simp [swp]
       · intro i h1 h2
         have hi:i < T.length:=by simpa [swp] using h2
         rw [List.getElem_map,swp_get T p r i hp hr hi]
         simp only [List.getElem_set,List.getElem_map]
         by_cases c1:r=i
         · subst c1;simp
         · by_cases c2:p=i
           · subst c2;simp [c1,Ne.symm c1]
           · simp [c1,c2,Ne.symm c1,Ne.symm c2]
 · have h7:=swp_mem T p r hp hr q hq
   obtain ⟨a1,a2,a3⟩:=h.row q h7
   exact ⟨a1,h5 q h7,a3⟩
 · have h8:=List.pairwise_iff_getElem.1 h.nodup
   have key:∀ i j (hi:i < T.length) (hj:j < T.length),i≠j→T[i].1≠T[j].1:=by
    intro i j hi hj h9 e
    rcases Nat.lt_or_gt_of_ne h9 with h' | h'
    · exact h8 i j (by simpa using hi) (by simpa using hj) h' (by simpa using e)
    · exact h8 j i (by simpa using hj) (by simpa using hi) h' (by simpa using e.symm)
   refine List.pairwise_iff_getElem.2 fun i j hi hj h9=>?_
   have h3:i < T.length:=by simpa [swp] using hi
   have h4:j < T.length:=by simpa [swp] using hj
   rw [List.getElem_map,List.getElem_map,swp_get T p r i hp hr h3,swp_get T p r j hp hr h4]
   by_cases c1:i=r
   · rw [if_pos c1]
     by_cases c2:j=r
     · omega
     · rw [if_neg c2]
       by_cases c3:j=p
       · rw [if_pos c3];exact key p r hp hr (by omega)
       · rw [if_neg c3];exact key p j hp h4 (fun h=>c3 h.symm)
   · rw [if_neg c1]
     by_cases c2:i=p
     · rw [if_pos c2]
       by_cases c3:j=r
       · rw [if_pos c3];exact key r p hr hp (by omega)
       · rw [if_neg c3]
         by_cases c4:j=p
         · omega
         · rw [if_neg c4];exact key r j hr h4 (fun h=>c3 h.symm)
     · rw [if_neg c2]
       by_cases c3:j=r
       · rw [if_pos c3];exact key i p h3 hp c2
       · rw [if_neg c3]
         by_cases c4:j=p
         · rw [if_pos c4];exact key i r h3 hr c1
         · rw [if_neg c4];exact key i j h3 h4 (by omega)
def adTo (l lp:List Nat) (f c j:Nat):List Nat:=(List.range l.length).map fun q=>if c≤q∧q < j then l.getD q 0^^^gm f (lp.getD q 0) else l.getD q 0
theorem adTo_len (l lp:List Nat) (f c j:Nat):(adTo l lp f c j).length=l.length:=by simp [adTo]
theorem adTo_start (l lp:List Nat) (f c:Nat):adTo l lp f c c=l:=by
 unfold adTo
 apply List.ext_getElem
 · simp
 · intro q h1 h2
   simp [h2]
   omega
theorem adTo_get (l lp:List Nat) (f c j:Nat) (hj:j < l.length):(adTo l lp f c j).getD j 0=l.getD j 0:=by simp [adTo,hj]
theorem adTo_step (l lp:List Nat) (f c j:Nat) (hc:c≤j):(adTo l lp f c j).set j (l.getD j 0^^^gm f (lp.getD j 0))=adTo l lp f c (j+1):=by
 unfold adTo
 apply List.ext_getElem
 · simp
 · intro q h1 h2
   simp [List.getElem_set]
   by_cases e:j=q
   · subst e;simp [hc]
   · simp only [if_neg e]
     by_cases e2:c≤q∧q < j
     · rw [if_pos e2,if_pos ⟨e2.1,by omega⟩]
     · rw [if_neg e2,if_neg (by omega)]
theorem adTo_lt {lp:List Nat} (hl:∀ x∈l,x < 256) {f:Nat} (hf:f < 256) (c j:Nat):∀ x∈adTo l lp f c j,x < 256:=by
 intro x hx
 obtain ⟨q,_,rfl⟩:=List.mem_map.1 hx
 have:=getD_lt hl q
 split
 · exact xlt this (gm_lt _ hf)
 · exact this
theorem adTo_vec (l lp:List Nat) (f c W:Nat) (h1:l.length=W) (h2:lp.length=W) (hz:∀ q,q < c→vec lp q=0):vec (adTo l lp f c W)=addV (vec l) f (vec lp):=by
 funext q
 show (adTo l lp f c W).getD q 0=l.getD q 0^^^gm f (lp.getD q 0)
 by_cases hq:q < W
 · by_cases hc:c≤q
   · simp [adTo,h1,hq,hc]
   · have:lp.getD q 0=0:=hz q (by omega)
     rw [this,gm_zero,Nat.xor_zero]
     simp [adTo,h1,hq,hc]
 · have e1:lp.getD q 0=0:=by simp [List.getElem?_eq_none (show lp.length≤q by omega)]
   have e2:l.getD q 0=0:=by simp [List.getElem?_eq_none (show l.length≤q by omega)]
   have e3:(adTo l lp f c W).getD q 0=0:=by
    rw [List.getD_eq_getElem?_getD,List.getElem?_eq_none (by rw [adTo_len];omega)];rfl
   rw [e1,e2,e3,gm_zero]
   exact (Nat.xor_self 0).symm
end
end Go.Proofs.YthcgahldacpolaaGreatDoor
