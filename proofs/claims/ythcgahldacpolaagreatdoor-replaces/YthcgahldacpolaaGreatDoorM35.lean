import Derived.Test.YthcgahldacpolaaGreatDoorM34
import Derived.Test.YthcgahldacpolaaGreatDoorM21
import Derived.Test.YthcgahldacpolaaGreatDoorM30
set_option maxRecDepth 100000
set_option maxHeartbeats 8000000
namespace Go.Proofs.YthcgahldacpolaaGreatDoor
open Go.RowKit Go.Deep
variable {a:Act} {ops:Array Oper} {Q:Exit→Act→World→Prop} {regs:Int} {kk:IntKind} {rest:List Oper} {n lost i B D L G n0 Bg gone kept:Nat} {o:Oper} {t:TypeId} {v x y:Value} {w w':World}
section
open Gf
def cpF (m:Nat→Nat→Nat) (q:Nat) (src:List Nat):Nat→Nat→Nat:=fun r j=>if r=q∧j < src.length then src.getD j 0 else m r j
theorem wpList_ckcp (h5:o.guard=none) (d s:Operand)
 (ho:o.op=.call { callee:=.builtin .copy,args:=#[d,s],argTypes:=#[33,33] }) (b q:Nat) (v:Value) (hd:a.eval d=.slice (some ⟨b,q*16,none⟩) 16 16) (hs:a.eval s=v)
 (C:Ck) (src:List Nat) (hC:CkAt w b C) (hq:q < 8) (hS:Bs w v src) (h8:src.length≤16)
 (h:∀ w',CkAt w' b ⟨cpF C.m q src,C.told,C.count⟩→Below b w w'→wpList Tryz.prog ops Q rest (a.put o.dst (goInt src.length)) w'):wpList Tryz.prog ops Q (o :: rest) a w:=by
 obtain ⟨ao,c,rfl,h1,h2,h3,h4⟩:=hS
 refine wpList_copy_splice h5 d s 33 33 ho 5 Tryz.underlying33 (by kernel_rfl) (some ⟨b,q*16,none⟩) ao 16 16 src.length c hd hs b (q*16) _ 273 hC.heap (src.map (fun x=>Value.int .u8 ((x:Nat):Int))) ?_ ?_ ?_ ?_ b w (Below.refl _ _) (Nat.le_refl _) ?_
 · rw [List.length_map]
   show src.length=min src.length 16
   omega
 · intro hp
   rw [List.length_map] at hp
   obtain ⟨b',off,rfl,hc⟩:=h4 (by intro e;rw [e] at hp;simp at hp)
   refine ⟨rfl,_,rfl,fun j u hj=>?_⟩
   have h0:j < src.length:=by
    obtain ⟨q,_⟩:=List.getElem?_eq_some_iff.1 hj
    simpa using q
   rw [Addr.add_mid,hc j h0]
   simp [h0] at hj
   simp [h0,hj]
 · simp;omega
 · intro u hu
   obtain ⟨x,_,rfl⟩:=List.mem_map.1 hu
   rfl
 · intro w' h6 h7
   have hw:=h6.out
   rw [List.length_map]
   refine h w' ⟨_,hw,?_,fun i hi=>?_⟩ h7
   · rw [List.size_toArray,length_splice _ _ _ (by simp;omega)];simp
   · unfold splice
     rw [List.getElem?_toArray]
     have hA:∀ x,x < 130→((List.range 130).map (ckV C))[x]?=some (ckV C x):=fun x hx=>by rw [List.getElem?_map,List.getElem?_range hx];rfl
     have hL:((List.range 130).map (ckV C)).length=130:=by rw [List.length_map,List.length_range]
     by_cases q1:i < q*16
     · rw [List.getElem?_append_left (by simp;omega),List.getElem?_take,if_pos q1,hA i hi]
       congr 1
       unfold ckV
       rw [if_pos (by omega),if_pos (by omega)]
       show _=Value.int .u8 ((cpF C.m q src (i / 16) (i % 16):Nat):Int)
       unfold cpF;rw [if_neg (by omega)]
     · have e0:(((List.range 130).map (ckV C)).take (q*16)).length=q*16:=by rw [List.length_take,hL];omega
       rw [List.getElem?_append_right (by rw [e0];omega),e0]
       by_cases q2:i < q*16+src.length
       · rw [List.getElem?_append_left (by simp;omega)]
         have q3:i - q*16 < src.length:=by omega
         rw [List.getElem?_map,List.getElem?_eq_getElem q3]
         simp only [Option.map_some]
         congr 1
         unfold ckV
         rw [if_pos (by omega)]
         show _=Value.int .u8 ((cpF C.m q src (i / 16) (i % 16):Nat):Int)
         unfold cpF
         rw [if_pos (by omega),show i % 16=i - q*16 by omega,List.getD_eq_getElem?_getD,List.getElem?_eq_getElem q3]
         rfl
       · rw [List.getElem?_append_right (by simp;omega)]
         simp only [List.length_map]
         rw [List.getElem?_drop,show q*16+src.length+(i - q*16 - src.length)=i by omega,hA i hi]
         congr 1
         unfold ckV
         by_cases q3:i < 128
         · rw [if_pos q3,if_pos q3]
           show _=Value.int .u8 ((cpF C.m q src (i / 16) (i % 16):Nat):Int)
           unfold cpF;rw [if_neg (by omega)]
         · rw [if_neg q3,if_neg q3]
theorem ck_one {b:Nat} {C:Ck} (h:CkAt w b C) (q i v:Nat) (hq:q < 8) (hi:i < 16):CkAt (w.setCell ⟨b,q*16+i,none⟩ (.int .u8 (v:Int))) b ⟨fun r j=>if r=q∧j=i then v else C.m r j,C.told,C.count⟩:=
 (h.set (q*16+i) (.int .u8 (v:Int))).congr (fun x hx=>by
  unfold ckV
  by_cases e:x=q*16+i
  · rw [if_pos e,if_pos (by omega)]
    show _=Value.int .u8 ((if x / 16=q∧x % 16=i then v else _:Nat):Int)
    rw [if_pos (by omega)]
  · rw [if_neg e]
    by_cases h2:x < 128
    · rw [if_pos h2,if_pos h2]
      show _=Value.int .u8 ((if x / 16=q∧x % 16=i then v else C.m (x / 16) (x % 16):Nat):Int)
      rw [if_neg (by omega)]
    · rw [if_neg h2,if_neg h2])
def mf (M:List (List Nat)) (i j:Nat):Nat:=(M.getD i []).getD j 0
theorem ck0_none (M:Nat→Nat→Nat) (D:Nat):ck0 M D 0=ckZ:=by
 unfold ck0 ckZ
 congr 1
theorem ck0_next (M:List (List Nat)) (D k:Nat) (hl:(M.getD (D+k) []).length=D) :
 (⟨fun r j=>if r=k∧j=D+k then 1 else cpF (ck0 (mf M) D k).m k (M.getD (D+k) []) r j,0,k+1⟩:Ck)=ck0 (mf M) D (k+1):=by
 unfold ck0
 congr 1
 funext r j
 show (if r=k∧j=D+k then 1 else (if r=k∧j < (M.getD (D+k) []).length then (M.getD (D+k) []).getD j 0 else (if r < k then (if j < D then mf M (D+r) j else if j=D+r then 1 else 0) else 0)))=(if r < k+1 then (if j < D then mf M (D+r) j else if j=D+r then 1 else 0) else 0)
 rw [hl]
 by_cases e:r=k
 · subst e
   by_cases h1:j=D+r
   · simp [h1];intro h;omega
   · by_cases h2:j < D
     · simp [h1,h2,mf]
     · simp [h1,h2]
 · by_cases h1:r < k
   · simp [e,h1,show r < k+1 by omega]
   · simp [e,h1,show ¬ r < k+1 by omega]
def CoR (w:World) (M:List (List Nat)) (D:Nat) (i:Value) (wr:World):Prop:=
 ∃ k:Nat,D+k≤M.length∧i=.int .i64 (k:Int)∧CkAt wr (w.heap.size+1) (ck0 (mf M) D k)∧CkAt wr w.heap.size ckZ∧Below w.heap.size w wr
theorem checksOf_any (b off c:Nat) (M:List (List Nat)) (D:Nat) (w:World) (hf:M.length≤c) (hc:∀ i (hi:i < M.length),∃ u,w.cell? ⟨b,off+i,none⟩=some u∧Bs w u M[i]) (hD:1≤D) (kb:D < M.length) (kc:M.length≤16) (hP:M.length≤D+8) (h1:∀ i,i < M.length→(M.getD i []).length=D) :
 Calls Tryz.prog 158 #[.slice (some ⟨b,off,none⟩) M.length c,.int .i64 D] w fun e w'=>e=.returned (.agg (ckA (ck0 (mf M) D (M.length - D))))∧Below w.heap.size w w':=by
 have hz:=zeroCk
 have h4:=ckA_size ckZ
 have kd:(D:Int)≤(M.length:Int):=by omega
 have ke:c - D≠0:=by omega
 have hh:¬ c≤D:=by omega
 have hj:D < c:=by omega
 have HC:=hide hc
 have HR:=hide h1
 clear hc h1
 have h8:CoR w M D (.int .i64 (0:Nat)) ((w.alloc (.cells (ckA ckZ) 273)).alloc (.cells (ckA ckZ) 273)):=by
  refine ⟨0,by omega,rfl,?_,(CkAt.new w ckZ).keep (Below.heap_alloc _ _ _ (by simp)),((Below.refl _ _).alloc (Nat.le_refl _) _).alloc (by simp) _⟩
  rw [ck0_none]
  have h:=CkAt.new (w.alloc (.cells (ckA ckZ) 273)) ckZ
  rw [World.size_alloc] at h
  exact h
 have h9:=hide h8
 clear h8
 go_enter Tryz.func158,Tryz.ntmps158
 go_wp2
 clear hz h4
 go_loopw [12] (fun i wr=>CoR w M D i wr) (fun i _=>(M.length - D) - (intOf i).toNat)
 case atStart=>exact h9.out
 case round=>
  clear h9
  rename World=>wo
  obtain ⟨k,hk,rfl,hC,hZ,hb⟩:=hrel
  by_cases h5:D+k < M.length
  · have hm:(k:Int) < ((M.length - D:Nat):Int):=by omega
    obtain ⟨u,hu,hB⟩:=HC.out (D+k) h5
    have kf:wo.cell? ⟨b,off+D+k,none⟩=some u:=by rw [Nat.add_assoc,hb.cell (block_lt_of_cell hu)];exact hu
    have ha:=hB.mono hb
    have h3:=HR.out (D+k) h5
    have hg:M.getD (D+k) []=M[D+k]:=by simp [h5]
    rw [hg] at h3
    have h6:=ck0_next M D k (by rw [hg];exact h3)
    rw [hg] at h6
    have kg:=fun w'=>row_slice w' (w.heap.size+1) (k*16)
    have kh:(k:Int) < 8:=by omega
    have ki:(D:Int)+(k:Int) < 16:=by omega
    have kj:wrap64 ((D:Int)+(k:Int))=((D+k:Nat):Int):=by unfold wrap64;omega
    have hn:IntKind.i64.wrap ((D:Int)+(k:Int))=((D+k:Nat):Int):=by rw [IntKind.wrap_i64];omega
    have kk:wrap64 ((k:Int)+1)=((k+1:Nat):Int):=by unfold wrap64;omega
    have hp:IntKind.i64.wrap ((k:Int)+1)=((k+1:Nat):Int):=by rw [IntKind.wrap_i64];omega
    have hq:=hide h6
    have HB:=hide ha
    have h7:=hide hC
    have HZ:=hide hZ
    have hr:=hide hb
    have hs:=hide h3
    clear h6 ha hC hZ hb hB hu HR hg h3
    generalize M[D+k]=row at *
    go_wp2_with (refine wpList_ckcp rfl (.tmp 20) (.tmp 21) rfl (w.heap.size+1) k _ rfl rfl _ row h7.out (by omega) HB.out (by have:=hs.out;omega) ?_;intro w2 h0 h2;have c1:=h0.at k (D+k) (by omega) (by omega);have f1:=h0.frozen (k*16+(D+k));have c3':(w2.setCell ⟨w.heap.size+1,k*16+(D+k),none⟩ (.int .u8 1)).cell? ⟨w.heap.size+1,129,none⟩=some (.int .i64 (k:Int)):=(ck_one h0 k (D+k) 1 (by omega) (by omega)).countC;have f3':(w2.setCell ⟨w.heap.size+1,k*16+(D+k),none⟩ (.int .u8 1)).frozen? ⟨w.heap.size+1,129,none⟩=false:=(ck_one h0 k (D+k) 1 (by omega) (by omega)).frozen 129;have hx:=hide h0;have hy:=hide h2;clear h0 h2)
    have h0:=hx.out
    have h2:=hy.out
    have k0:=ck_one h0 k (D+k) 1 (by omega) (by omega)
    have k5:=count_set k0 (k+1)
    have k6:=HZ.out.keep (h2.block w.heap.size (by omega))
    have e4:(⟨(⟨fun r j=>if r=k∧j=D+k then 1 else cpF (ck0 (mf M) D k).m k row r j,(ck0 (mf M) D k).told,(ck0 (mf M) D k).count⟩:Ck).m,(ck0 (mf M) D k).told,k+1⟩:Ck)=ck0 (mf M) D (k+1):=hq.out
    have k7:CkAt ((w2.setCell ⟨w.heap.size+1,k*16+(D+k),none⟩ (.int .u8 1)).setCell ⟨w.heap.size+1,129,none⟩ (.int .i64 ((k+1:Nat):Int))) (w.heap.size+1) (ck0 (mf M) D (k+1)):=by rw [← e4];exact k5
    have k8:CkAt ((w2.setCell ⟨w.heap.size+1,k*16+(D+k),none⟩ (.int .u8 1)).setCell ⟨w.heap.size+1,129,none⟩ (.int .i64 ((k+1:Nat):Int))) w.heap.size ckZ:=
     k6.keep ((Below.heap_setCell _ _ _ _ (by show w.heap.size≠w.heap.size+1;omega)).trans (Below.heap_setCell _ _ _ _ (by show w.heap.size≠w.heap.size+1;omega)))
    have k9:Below w.heap.size w ((w2.setCell ⟨w.heap.size+1,k*16+(D+k),none⟩ (.int .u8 1)).setCell ⟨w.heap.size+1,129,none⟩ (.int .i64 ((k+1:Nat):Int))):=
     ((hr.out.trans (h2.mono (by omega))).setCell (p:=⟨w.heap.size+1,k*16+(D+k),none⟩) (by show w.heap.size≤w.heap.size+1;omega) _).setCell (p:=⟨w.heap.size+1,129,none⟩) (by show w.heap.size≤w.heap.size+1;omega) _
    have HH:=hide3 k7 k8 k9
    go_roundw
    case rel=>exact ⟨k+1,by omega,by go_num,HH.out.1,HH.out.2.1,HH.out.2.2⟩
    case measure=>simp [intOf];omega
  · have hm:¬ (k:Int) < ((M.length - D:Nat):Int):=by omega
    have he:M.length - D=k:=by omega
    have ka:=hide he
    have HB:=hide hb
    have h7:=hide hC
    have HZ:=hide hZ
    clear he
    go_wp2_with (first
     | refine wpList_load_row rfl 273 (.tmp 5) rfl (w.heap.size+1) rfl 273 (ckA (ck0 (mf M) D k)) (0,0) _ h7.out.heap Tryz.underlying273 rfl (ckA_info _) ?_
     | refine wpList_store_row rfl 273 (.tmp 4) (.tmp 35) rfl w.heap.size (ckA (ck0 (mf M) D k)) rfl rfl 273 (ckA ckZ) HZ.out.heap (ckA_info _) (by rw [ckA_size,ckA_size]) (ckA_one _) ?_)
    refine bodyPost_ret (v:=.agg (ckA (ck0 (mf M) D k))) (results_cell_row Tryz.results158 _ _ w.heap.size 273 (ckA (ck0 (mf M) D k)) (0,0) _ rfl (HZ.out.setRow (ck0 (mf M) D k)).heap Tryz.underlying273 rfl (ckA_info _)) rfl ?_
    rw [ka.out]
    exact ⟨rfl,HB.out.grown (grown_setRow _ _ _) HB.out.size (fun q e=>by cases e;exact Nat.le_refl _)⟩
end
section
open Gf
def goneN (n lost:Nat):Nat:=lost &&& (2^n - 1)
def keptN (n lost:Nat):Nat:=(2^n - 1) &&& (18446744073709551615 - goneN n lost)
theorem pow16 (h:n≤16):2^n≤65536:=Nat.pow_le_pow_right (n:=2) (i:=n) (j:=16) (by decide) h
theorem goneN_bit (n lost i:Nat):(goneN n lost).testBit i=(lost.testBit i && decide (i < n)):=by unfold goneN;rw [Nat.testBit_and,Nat.testBit_two_pow_sub_one]
theorem goneN_lt (lost:Nat) (h:n≤16):goneN n lost < 65536:=by
 have h1:=pow16 h
 have h2:goneN n lost≤2^n - 1:=Nat.and_le_right
 have h3:0 < 2^n:=Nat.two_pow_pos n
 omega
theorem keptN_lt (lost:Nat) (h:n≤16):keptN n lost < 65536:=by
 have h1:=pow16 h
 have h2:keptN n lost≤2^n - 1:=Nat.and_le_left
 have h3:0 < 2^n:=Nat.two_pow_pos n
 omega
theorem keptN_bit (lost i:Nat) (h:n≤16):(keptN n lost).testBit i=(decide (i < n) && !lost.testBit i):=by
 have hg:=goneN_lt lost h
 unfold keptN
 rw [Nat.testBit_and,Nat.testBit_two_pow_sub_one,show 18446744073709551615 - goneN n lost=2^64 - (goneN n lost+1) by omega,Nat.testBit_two_pow_sub_succ (by omega),goneN_bit]
 by_cases hi:i < n
 · simp [hi,show i < 64 by omega]
 · simp [hi]
theorem mem_gone (h:n≤16):i∈mems (goneN n lost)↔i < n∧lost.testBit i=true:=by
 rw [mem_mems,goneN_bit]
 simp only [Bool.and_eq_true,decide_eq_true_eq]
 constructor
 · rintro ⟨_,h1,h2⟩;exact ⟨h2,h1⟩
 · rintro ⟨h1,h2⟩;exact ⟨by omega,h2,h1⟩
theorem mem_kept (h:n≤16):i∈mems (keptN n lost)↔i < n∧lost.testBit i=false:=by
 rw [mem_mems,keptN_bit lost i h]
 simp only [Bool.and_eq_true,decide_eq_true_eq,Bool.not_eq_true']
 constructor
 · rintro ⟨_,h1,h2⟩;exact ⟨h1,h2⟩
 · rintro ⟨h1,h2⟩;exact ⟨by omega,h1,h2⟩
theorem mems_nodup (s:Nat):(mems s).Nodup:=List.Pairwise.filter _ List.nodup_range
theorem mat_open {T:List (Nat×Nat×List Nat)} {M:List (List Nat)} (h:Tab w B v T) (hH:Holds T D M) (hD:∀ r∈M,r.length=D) (hM:M≠[]) :
 ∃ g c,v=.slice (some ⟨g,0,none⟩) M.length c∧M.length≤c∧∀ i (hi:i < M.length),∃ u,w.cell? ⟨g,0+i,none⟩=some u∧Bs w u M[i]:=by
 have h1:T.length=M.length:=by simpa using congrArg List.length hH
 rcases h.own.2 with ⟨_,h0⟩ | ⟨g,c,cur,rfl,_,_,hc,_⟩
 · exact absurd (List.eq_nil_of_length_eq_zero (by omega)) hM
 · refine ⟨g,c,by rw [h1],by omega,fun i hi=>?_⟩
   have h2:i < T.length:=by omega
   refine ⟨hdr T[i],by rw [Nat.zero_add];exact h.cell_at h2,?_⟩
   have:=h.row_at h2
   have h3:T[i].2=(D,M[i]):=by
    have:=congrArg (fun l=>l[i]?) hH
    simpa [h2,hi] using this
   rw [h3] at this
   have e:(M[i]).take D=M[i]:=by rw [← hD _ (List.getElem_mem hi),List.take_length]
   rw [e] at this
   exact this
theorem mat_get (D L G i:Nat) (hi:i < D):(matL D L G).getD i []=dataL D i:=by
 unfold matL
 rw [List.append_assoc,List.getD_eq_getElem?_getD,List.getElem?_append_left (by simpa using hi)]
 simp [hi]
theorem mat_code (D L G:Nat) (hD:D≤12) (hG:G≤4):Gf.Code (mf (matL D L G)) D (L+G):=by
 refine ⟨fun i j=>?_,fun i hi j=>?_,fun i j hj=>?_⟩
 · unfold mf
   by_cases hi:i < (matL D L G).length
   · have e:(matL D L G).getD i []=(matL D L G)[i]:=by simp [hi]
     rw [e]
     exact getD_lt (mat_byte D L G hD hG _ (List.getElem_mem hi)) j
   · have e:(matL D L G).getD i []=[]:=by simp [hi]
     rw [e];simp
 · unfold mf
   rw [mat_get D L G i hi]
   unfold dataL
   rw [List.getD_eq_getElem?_getD,List.getElem?_set]
   by_cases e:i=j
   · subst e;simp [hi]
   · simp only [e,if_false]
     rw [if_neg (fun h=>e h.symm)]
     by_cases hj:j < D
     · simp [hj]
     · simp [hj]
 · unfold mf
   by_cases hi:i < (matL D L G).length
   · have e:(matL D L G).getD i []=(matL D L G)[i]:=by simp [hi]
     have hl:=mat_row D L G _ (List.getElem_mem hi)
     rw [e,List.getD_eq_getElem?_getD,List.getElem?_eq_none (by omega)];rfl
   · have e:(matL D L G).getD i []=[]:=by simp [hi]
     rw [e];simp
def cks (D L G:Nat):Ck:=ck0 (mf (matL D L G)) D (L+G)
theorem cks_fit (hD:D≤12) (hL:L≤4) (hG:G≤4) {pre:List Nat} {C:Ck} (h:tells (cks D L G) pre=some C):CkFit C:=by
 rcases (mat_code D L G hD hG).told pre with ⟨C',h1,h2⟩ | ⟨h1,_⟩
 · have e:tells (cks D L G) pre=some C':=h1
   rw [h] at e
   obtain rfl:=Option.some.inj e
   exact ⟨h2.byt,h2.le,by have:C.count=L+G:=h2.count;omega⟩
 · have e:tells (cks D L G) pre=none:=h1
   rw [h] at e;cases e
end
structure St where
 k:Nat
 a:Int
 b:Int
 c:Nat
def stc (kk:IntKind) (s:St):List Value:=[.int kk s.k,.int .i64 s.a,.int .i64 s.b,.int .u8 s.c]
def okInts (s:St):Prop:=s.k < 256∧-9223372036854775808≤s.a∧s.a≤9223372036854775807∧-9223372036854775808≤s.b∧s.b≤9223372036854775807∧s.c < 256
def Ps (kk:IntKind) (w:World) (v:Value) (P:List St):Prop:=
 ∃ ao c,v=.slice ao P.length c∧P.length≤4398046511104∧(P≠[]→∃ b off,ao=some ⟨b,off,none⟩∧∀ i (hi:i < P.length),
  w.cell? ⟨b,off+i*4,none⟩=some (.int kk P[i].k)∧w.cell? ⟨b,off+i*4+1,none⟩=some (.int .i64 P[i].a)∧w.cell? ⟨b,off+i*4+2,none⟩=some (.int .i64 P[i].b)∧w.cell? ⟨b,off+i*4+3,none⟩=some (.int .u8 P[i].c))
theorem Ps.mono {P:List St} (h:Ps kk w v P) (hb:Below w.heap.size w w'):Ps kk w' v P:=by
 obtain ⟨ao,c,h1,h2,h3⟩:=h
 refine ⟨ao,c,h1,h2,fun hP=>?_⟩
 obtain ⟨b,off,e,hc⟩:=h3 hP
 refine ⟨b,off,e,fun i hi=>?_⟩
 obtain ⟨c0,c1,c2,c3⟩:=hc i hi
 exact ⟨by rw [hb.cell (block_lt_of_cell c0)];exact c0,by rw [hb.cell (block_lt_of_cell c1)];exact c1,by rw [hb.cell (block_lt_of_cell c2)];exact c2,by rw [hb.cell (block_lt_of_cell c3)];exact c3⟩
theorem Ps.cases {P:List St} (h:Ps kk w v P):(P=[]∧∃ ao c,v=.slice ao 0 c)∨∃ b off c,v=.slice (some ⟨b,off,none⟩) P.length c∧P.length≤4398046511104∧∀ i (hi:i < P.length),
 w.cell? ⟨b,off+i*4,none⟩=some (.int kk P[i].k)∧w.cell? ⟨b,off+i*4+1,none⟩=some (.int .i64 P[i].a)∧w.cell? ⟨b,off+i*4+2,none⟩=some (.int .i64 P[i].b)∧w.cell? ⟨b,off+i*4+3,none⟩=some (.int .u8 P[i].c):=by
 obtain ⟨ao,c,h1,h2,h3⟩:=h
 by_cases hP:P=[]
 · subst hP;exact .inl ⟨rfl,ao,c,h1⟩
 · obtain ⟨b,off,rfl,hc⟩:=h3 hP
   exact .inr ⟨b,off,c,h1,h2,hc⟩
theorem Ps.slice {P:List St} (h:Ps kk w v P):∃ ao c,v=.slice ao P.length c:=by
 obtain ⟨ao,c,h1,_⟩:=h
 exact ⟨ao,c,h1⟩
def okStep (s:St) (regs shards:Int):Prop:=(s.k=0∨s.k=2)∧0≤s.a∧s.a < regs∧0≤s.b∧s.b < shards∨s.k=1∧0≤s.a∧s.a < regs∧0≤s.b∧s.b < regs∧s.a≠s.b
def okHead (regs:Int) (P:List St):Prop:=0≤regs∧regs≤32∧P.length≤2000
def okProg (regs:Int) (P:List St) (shards:Int):Prop:=okHead regs P∧∀ i (hi:i < P.length),okStep P[i] regs shards
def BIs (p:Prop) (w:World) (r:Ending) (w':World):Prop:=∃ b:Bool,r=.returned (.bool b)∧(b=true↔p)∧Below w.heap.size w w'
def BIs0 (p:Prop) (w:World) (r:Ending) (w':World):Prop:=∃ b:Bool,r=.returned (.bool b)∧(b=true↔p)∧w'=w
def inB (n e:Int):Prop:=0≤n∧n < e
theorem within_any (n e:Int) (w:World) :
 Calls Tryz.prog 148 #[.int .i64 n,.int .i64 e] w fun r w'=>BIs0 (inB n e) w r w':=by
 by_cases h1:0≤n
 · go_enter Tryz.func148,Tryz.ntmps148
   go_wp2
   go_ret
   exact ⟨_,rfl,by unfold inB;simp [h1],rfl⟩
 · go_enter Tryz.func148,Tryz.ntmps148
   go_wp2
   go_ret
   exact ⟨_,rfl,by unfold inB;simp;omega,rfl⟩
theorem within_yes (n e:Int) (h:inB n e) (w:World) :
 Calls Tryz.prog 148 #[.int .i64 n,.int .i64 e] w fun r w'=>r=.returned (.bool true)∧w'=w:=by
 refine (within_any n e w).mono ?_
 rintro r w' ⟨b,rfl,hb,rfl⟩
 exact ⟨by rw [hb.2 h],rfl⟩
theorem within_no (n e:Int) (h:¬ inB n e) (w:World) :
 Calls Tryz.prog 148 #[.int .i64 n,.int .i64 e] w fun r w'=>r=.returned (.bool false)∧w'=w:=by
 refine (within_any n e w).mono ?_
 rintro r w' ⟨b,rfl,hb,rfl⟩
 cases b
 · exact ⟨rfl,rfl⟩
 · exact absurd (hb.1 rfl) h
theorem bounded_any (regs:Int) (v:Value) (P:List St) (w:World) (h:Ps .u8 w v P) :
 Calls Tryz.prog 131 #[.agg #[.int .i64 regs,v]] w fun r w'=>BIs (okHead regs P) w r w':=by
 obtain ⟨ao,c,rfl⟩:=h.slice
 clear h
 have hb:Below w.heap.size w (w.alloc (.cells #[.int .i64 regs,.slice ao P.length c] 155)):=(Below.refl _ _).alloc (Nat.le_refl _) _
 by_cases h1:inB regs 33
 · have HW:=hide h1
   clear h1
   go_enter Tryz.func131,Tryz.ntmps131
   go_wp2_with (go_at_call 148;refine (within_yes _ _ HW.out _).mono ?_;rintro e w' ⟨rfl,rfl⟩)
   go_ret
   refine ⟨_,rfl,?_,hb⟩
   have:=HW.out
   unfold inB at this
   unfold okHead
   simp
   omega
 · have HW:=hide h1
   clear h1
   go_enter Tryz.func131,Tryz.ntmps131
   go_wp2_with (go_at_call 148;refine (within_no _ _ HW.out _).mono ?_;rintro e w' ⟨rfl,rfl⟩)
   go_ret
   refine ⟨_,rfl,?_,hb⟩
   have:=HW.out
   unfold inB at this
   unfold okHead
   simp
   omega
theorem pfits_any (s:St) (regs shards:Int) (w:World) :
 Calls Tryz.prog 132 #[.agg #[.int .u8 s.k,.int .i64 s.a,.int .i64 s.b,.int .u8 s.c],.int .i64 regs,.int .i64 shards] w fun r w'=>BIs (okStep s regs shards) w r w':=by
 obtain ⟨k,a,b,c⟩:=s
 have hb:Below w.heap.size w (w.alloc (.cells #[.int .u8 k,.int .i64 a,.int .i64 b,.int .u8 c] 238)):=(Below.refl _ _).alloc (Nat.le_refl _) _
 by_cases k0:k=0∨k=2
 · by_cases ha:inB a regs
   · by_cases hB:inB b shards
     · have HA:=hide ha
       have HB:=hide hB
       clear ha hB
       rcases k0 with rfl | rfl
       all_goals
        go_enter Tryz.func132,Tryz.ntmps132
        go_wp2_with fail
        refine (within_yes _ _ HA.out _).mono ?_
        rintro e w' ⟨rfl,rfl⟩
        go_wp2_with fail
        refine (within_yes _ _ HB.out _).mono ?_
        rintro e w' ⟨rfl,rfl⟩
        go_wp2
        go_ret
        refine ⟨_,rfl,?_,hb⟩
        have:=HA.out
        have:=HB.out
        unfold inB at *
        unfold okStep
        simp
        omega
     · have HA:=hide ha
       have HB:=hide hB
       clear ha hB
       rcases k0 with rfl | rfl
       all_goals
        go_enter Tryz.func132,Tryz.ntmps132
        go_wp2_with fail
        refine (within_yes _ _ HA.out _).mono ?_
        rintro e w' ⟨rfl,rfl⟩
        go_wp2_with fail
        refine (within_no _ _ HB.out _).mono ?_
        rintro e w' ⟨rfl,rfl⟩
        go_wp2
        go_ret
        refine ⟨_,rfl,?_,hb⟩
        have:=HA.out
        have:=HB.out
        unfold inB at *
        unfold okStep
        simp
        omega
   · have HA:=hide ha
     clear ha
     rcases k0 with rfl | rfl
     all_goals
      go_enter Tryz.func132,Tryz.ntmps132
      go_wp2_with (go_at_call 148;refine (within_no _ _ HA.out _).mono ?_;rintro e w' ⟨rfl,rfl⟩)
      go_ret
      refine ⟨_,rfl,?_,hb⟩
      have:=HA.out
      unfold inB at *
      unfold okStep
      simp
      omega
 · by_cases k1:k=1
   · subst k1
     clear k0
     by_cases ha:inB a regs
     · by_cases hB:inB b regs
       · have HA:=hide ha
         have HB:=hide hB
         clear ha hB
         go_enter Tryz.func132,Tryz.ntmps132
         go_wp2_with fail
         refine (within_yes _ _ HA.out _).mono ?_
         rintro e w' ⟨rfl,rfl⟩
         go_wp2_with fail
         refine (within_yes _ _ HB.out _).mono ?_
         rintro e w' ⟨rfl,rfl⟩
         go_wp2
         go_ret
         refine ⟨_,rfl,?_,hb⟩
         have:=HA.out
         have:=HB.out
         unfold inB at *
         unfold okStep
         simp
         omega
       · have HA:=hide ha
         have HB:=hide hB
         clear ha hB
         go_enter Tryz.func132,Tryz.ntmps132
         go_wp2_with fail
         refine (within_yes _ _ HA.out _).mono ?_
         rintro e w' ⟨rfl,rfl⟩
         go_wp2_with fail
         refine (within_no _ _ HB.out _).mono ?_
         rintro e w' ⟨rfl,rfl⟩
         go_wp2
         go_ret
         refine ⟨_,rfl,?_,hb⟩
         have:=HA.out
         have:=HB.out
         unfold inB at *
         unfold okStep
         simp
         omega
     · have HA:=hide ha
       clear ha
       go_enter Tryz.func132,Tryz.ntmps132
       go_wp2_with (go_at_call 148;refine (within_no _ _ HA.out _).mono ?_;rintro e w' ⟨rfl,rfl⟩)
       go_ret
       refine ⟨_,rfl,?_,hb⟩
       have:=HA.out
       unfold inB at *
       unfold okStep
       simp
       omega
   · have e0:((k:Int) == 0)=false:=by rw [beq_eq_false_iff_ne];omega
     have e1:((k:Int) == 1)=false:=by rw [beq_eq_false_iff_ne];omega
     have e2:((k:Int) == 2)=false:=by rw [beq_eq_false_iff_ne];omega
     have K0:=hide k0
     have K1:=hide k1
     clear k0 k1
     go_enter Tryz.func132,Tryz.ntmps132
     go_wp2
     go_ret
     refine ⟨_,rfl,?_,hb⟩
     have:=K0.out
     have:=K1.out
     unfold okStep
     simp
     omega
def ChPost (regs:Int) (P:List St) (shards:Int) (w:World) (r:Ending) (w':World):Prop:=(okProg regs P shards→r=.returned .nilIface)∧(¬ okProg regs P shards→r=.returned (.iface 37 (.int .i64 4)))∧Below w.heap.size w w'
def ChR (w:World) (regs shards:Int) (P:List St) (i:Value) (wr:World):Prop:=∃ k:Nat,k≤P.length∧i=.int .i64 k∧(∀ j (hj:j < P.length),j < k→okStep P[j] regs shards)∧Below w.heap.size w wr
theorem box2 (h:Below (n+1) (w.alloc (.cells #[x,y] t)) w') (hn:n=w.heap.size):w'.cell? ⟨n,0,none⟩=some x∧w'.cell? ⟨n,1,none⟩=some y:=by
 subst hn
 constructor
 · rw [h.cell (by simp)];simp
 · rw [h.cell (by simp)];simp
theorem check_any (regs shards:Int) (v:Value) (P:List St) (w:World) (h:Ps .u8 w v P) :
 Calls Tryz.prog 108 #[.agg #[.int .i64 regs,v],.int .i64 shards] w fun r w'=>ChPost regs P shards w r w':=by
 have h7:Below w.heap.size w (w.alloc (.cells #[.int .i64 regs,v] 155)):=(Below.refl _ _).alloc (Nat.le_refl _) _
 have h0:=h.mono h7
 obtain ⟨ao,c,rfl⟩:=h.slice
 go_enter Tryz.func108,Tryz.ntmps108
 go_wp2_with fail
 refine (bounded_any regs _ P _ h0).mono ?_
 rintro r w1 ⟨b,rfl,hb,h4⟩
 rw [nblk_alloc] at h4
 obtain ⟨p0,p1⟩:=box2 h4 rfl
 have hh:=h4.size
 rw [nblk_alloc] at hh
 have h2:=h7.trans (h4.mono (by omega))
 cases b
 · have HN:=hide (show ¬ okProg regs P shards from fun hp=>by have:=hb.2 hp.1;simp at this)
   clear hb h4 h0 h h7
   go_wp2
   go_ret
   exact ⟨fun hp=>absurd hp HN.out,fun _=>rfl,h2⟩
 · have HH:=hide (hb.1 rfl)
   have h1:=h.mono h2
   clear hb h4 h0 h7 h
   rcases h1.cases with ⟨rfl,ao',c',e⟩ | ⟨b,off,c',e,_,hc⟩
   · simp at e
     obtain ⟨rfl,rfl⟩:=e
     clear h1
     go_wp2
     refine wp_loop_rounds 1 ?_
     rw [rounds_succ]
     go_wp2
     go_ret
     exact ⟨fun _=>rfl,fun hp=>absurd ⟨HH.out,fun i hi=>by simp at hi⟩ hp,h2⟩
   · simp at e
     obtain ⟨rfl,rfl⟩:=e
     clear h1
     go_wp2
     go_loopw [14] (fun i wr=>ChR w1 regs shards P i wr) (fun i _=>P.length - (intOf i).toNat)
     case atStart=>exact ⟨0,Nat.zero_le _,rfl,fun j _ hj=>absurd hj (by omega),Below.refl _ _⟩
     case round=>
      rename World=>wo
      obtain ⟨k,hk,rfl,h8,h3⟩:=hrel
      have q0:=(h3.cell (block_lt_of_cell p0)).trans p0
      have q1:=(h3.cell (block_lt_of_cell p1)).trans p1
      by_cases hf:k < P.length
      · obtain ⟨c0,c1,c2,c3⟩:=hc k hf
        have d0:=(h3.cell (block_lt_of_cell c0)).trans c0
        have d1:=(h3.cell (block_lt_of_cell c1)).trans c1
        have d2:=(h3.cell (block_lt_of_cell c2)).trans c2
        have d3:=(h3.cell (block_lt_of_cell c3)).trans c3
        have HC:=hide hc
        have h9:=hide h8
        clear hc h8 c0 c1 c2 c3
        have q0':=(((Below.refl wo.heap.size wo).alloc (Nat.le_refl _) (.cells #[.int .u8 P[k].k,.int .i64 P[k].a,.int .i64 P[k].b,.int .u8 P[k].c] 238)).cell (block_lt_of_cell q0)).trans q0
        have h5:=h3.alloc h3.size (.cells #[.int .u8 P[k].k,.int .i64 P[k].a,.int .i64 P[k].b,.int .u8 P[k].c] 238)
        have hn:=h3.size
        go_wp2_with fail
        refine (pfits_any P[k] regs shards _).mono ?_
        rintro r w2 ⟨b2,rfl,hg,ha⟩
        rw [nblk_alloc] at ha
        have h6:=h5.trans (ha.mono (by omega))
        have he:=hide hg
        clear ha hg d0 d1 d2 d3 q0 q1 q0' h3 h5
        cases b2
        · go_wp2
          go_ret
          exact ⟨fun hp=>absurd (he.out.2 (hp.2 k hf)) (by simp),fun _=>rfl,h2.trans (h6.mono (by omega))⟩
        · go_wp2
          go_roundw
          case rel=>
           refine ⟨k+1,by omega,by go_num,fun j hj hq=>?_,h6⟩
           by_cases e:j=k
           · subst e;first | exact he.out.1 rfl | exact he.out.1 trivial
           · exact h9.out j hj (by omega)
          case measure=>simp [intOf];omega
      · have hm:k=P.length:=by omega
        subst hm
        have h9:=hide h8
        clear hc h8
        go_wp2
        go_ret
        exact ⟨fun _=>rfl,fun hp=>absurd ⟨HH.out,fun i hi=>h9.out i hi hi⟩ hp,h2.trans (h3.mono (by omega))⟩
def stcs (kk:IntKind):List St→List Value
 | []=>[]
 | s :: P=>stc kk s ++ stcs kk P
theorem stcs_append (kk:IntKind):∀ P Q,stcs kk (P ++ Q)=stcs kk P ++ stcs kk Q
 | [],_=>rfl
 | s :: P,Q=>by simp [stcs,stcs_append kk P Q]
theorem stcs_at (kk:IntKind):∀ (P:List St) (i:Nat) (hi:i < P.length) (j:Nat),j < 4→(stcs kk P)[i*4+j]?=(stc kk P[i])[j]?
 | s :: P,0,_,j,hj=>by
  simp only [stcs,Nat.zero_mul,Nat.zero_add,List.getElem_cons_zero]
  rw [List.getElem?_append_left (by simpa [stc] using hj)]
 | s :: P,i+1,hi,j,hj=>by
  have e:(i+1)*4+j=(stc kk s).length+(i*4+j):=by simp [stc];omega
  simp only [stcs,List.getElem_cons_succ]
  rw [e,List.getElem?_append_right (Nat.le_add_right _ _),Nat.add_sub_cancel_left]
  exact stcs_at kk P i (by simpa using hi) j hj
theorem four_new (w:World) (n:Nat) (hn:n=w.heap.size) (x y z u:Value) (t:TypeId):∀ j v,[x,y,z,u][j]?=some v→(w.alloc (.cells #[x,y,z,u] t)).cell? ((⟨n,0,none⟩:Addr).add j)=some v:=by
 subst hn
 intro j v hv
 rw [add0]
 rcases j with _ | _ | _ | _ | j
 all_goals simp at hv
 all_goals subst hv;simp
theorem owns_ps {base:Nat} {e:TypeId} {P:List St} (h:w.ownsRow base e 4 v P.length (stcs kk P)) (hl:P.length≤4398046511104):Ps kk w v P:=by
 rcases h.2 with ⟨h0,h1⟩ | ⟨g,cap,cur,e1,e2,e3,e4,e5,e6,e7⟩
 · have:P=[]:=List.eq_nil_of_length_eq_zero h1
   subst this
   exact ⟨none,0,h0,by simp,fun h=>absurd rfl h⟩
 · subst e1
   refine ⟨some ⟨g,0,none⟩,cap,rfl,hl,fun _=>⟨g,0,rfl,fun i hi=>?_⟩⟩
   have at':∀ j,j < 4→w.cell? ⟨g,0+i*4+j,none⟩=(stc kk P[i])[j]?:=fun j hj=>by
    rw [Nat.zero_add,h.cellAt (i*4+j) (by omega),stcs_at kk P i hi j hj]
   exact ⟨at' 0 (by decide),at' 1 (by decide),at' 2 (by decide),at' 3 (by decide)⟩
theorem grown_alloc {w0:World} {ob:Option Nat} (h:w0.grownBy w ob) (o:Obj):w0.grownBy (w.alloc o) ob:=
 ⟨h.os,h.tape,h.output,by rw [nblk_alloc];have:=h.size;omega,fun k hk h0=>by rw [← h.block k hk h0];exact ((Below.refl w.heap.size w).alloc (Nat.le_refl _) o).block k (Nat.lt_of_lt_of_le hk h.size)⟩
theorem grown_set' (w:World) (b i:Nat) (v:Value):w.grownBy (w.setCell ⟨b,i,none⟩ v) (some b):=
 ⟨rfl,rfl,rfl,by simp,fun k _ h0=>by
  have:b≠k:=fun e=>h0 (by rw [e])
  simp [World.setCell,Array.getElem?_modify,this]⟩
theorem heap_old (w:World) (o:Obj) (k:Nat) (h:k < w.heap.size):(w.alloc o).heap[k]?=w.heap[k]?:=((Below.refl w.heap.size w).alloc (Nat.le_refl _) o).block k h
theorem alloc3 (w:World) (a b c:Obj):(((w.alloc a).alloc b).alloc c).heap.size=w.heap.size+3∧(((w.alloc a).alloc b).alloc c).heap[w.heap.size]?=some a∧(((w.alloc a).alloc b).alloc c).heap[w.heap.size+1]?=some b∧(((w.alloc a).alloc b).alloc c).heap[w.heap.size+1+1]?=some c:=by
 have n1:=nblk_alloc w a
 have n2:=nblk_alloc (w.alloc a) b
 have n3:=nblk_alloc ((w.alloc a).alloc b) c
 refine ⟨by omega,?_,?_,?_⟩
 · rw [heap_old _ _ _ (by omega),heap_old _ _ _ (by omega)];exact heap_alloc_last w a
 · rw [heap_old _ _ _ (by omega),← n1];exact heap_alloc_last _ b
 · rw [← n1,← n2];exact heap_alloc_last _ c
theorem obj_cells {ob:Nat} (h:w.heap[ob]?=some (.cells #[x,y] t (0,0))):w.cell? ⟨ob,0,none⟩=some x∧w.cell? ⟨ob,1,none⟩=some y∧w.frozen? ⟨ob,1,none⟩=false∧w.frozen? ⟨ob,0,none⟩=false:=by
 simp [World.cell?,World.frozen?,h]
section
open Go.Shelf Gf
def PB (W:World) (n0 Bg:Nat) (regs:Int) (L:List St):Prop:=
 Bg < n0∧n0≤W.heap.size∧∃ v,W.heap[Bg]?=some (.cells #[.int .i64 regs,v] 155 (0,0))∧W.ownsRow n0 238 4 v L.length (stcs .u8 L)
theorem Tryz.infoStepW:(Tryz.prog.info? 238).map (fun i=>(i.zero,i.size,i.bytes))=some (some (.agg #[.int .u8 0,.int .i64 0,.int .i64 0,.int .u8 0]),4,32):=by kernel_rfl
theorem in_push {F:Fence} (hg:o.guard=none) (x y:Operand) (ho:o.op=.call { callee:=.builtin .append,args:=#[x,y],argTypes:=#[153,153] })
 (n0 q:Nat) (L:List St) (s:St) (v:Value) (hx:a.eval x=v) (hy:a.eval y=.slice (some ⟨q,0,none⟩) 1 1) (h3:w.ownsRow n0 238 4 v L.length (stcs .u8 L)) (hc:∀ j u,(stc .u8 s)[j]?=some u→w.cell? ((⟨q,0,none⟩:Addr).add j)=some u) (h4:n0≤w.heap.size) (hL:L.length≤100000)
 (hK:∀ g' cap' w2,n0≤g'→w2.ownsRow n0 238 4 (.slice (some ⟨g',0,none⟩) (L.length+1) cap') (L.length+1) (stcs .u8 (L ++ [s]))→w.grownBy w2 v.ownBlock→wpListIn F n Tryz.prog ops Q rest (a.put o.dst (.slice (some ⟨g',0,none⟩) (L.length+1) cap')) w2):wpListIn F n Tryz.prog ops Q (o :: rest) a w:=by
 obtain ⟨i0,h5,h6,h7,h8⟩:=info_parts Tryz.infoStepW
 refine wpListIn_append_own w hg x y 153 ho n0 238 i0 (.agg #[.int .u8 0,.int .i64 0,.int .i64 0,.int .u8 0]) 4 32 Tryz.underlying153 h5 h6 h7 h8 rfl (by decide) v L.length (stcs .u8 L) hx h3 ⟨q,0,none⟩ 1 1 (stc .u8 s) hy (by simp [stc]) hc (fun u hu=>by simp [stc] at hu;rcases hu with rfl | rfl | rfl | rfl <;> rfl) (by unfold maxLen;omega) (by omega) h4 ?_
 intro v' w2 h1 h2 _
 obtain ⟨g',cap',rfl,h9⟩:∃ g' cap',v'=.slice (some ⟨g',0,none⟩) (L.length+1) cap'∧n0≤g':=by
  rcases h1.2 with ⟨_,h0⟩ | ⟨g,cap,cur,hv,hb,_⟩
  · omega
  · exact ⟨g,cap,hv,hb⟩
 have e:stcs .u8 L ++ stc .u8 s=stcs .u8 (L ++ [s]):=by rw [stcs_append];simp [stcs]
 rw [e] at h1
 exact hK g' cap' w2 h9 h1 h2
theorem own_from {k:Nat} {xs:List Value} (h:w.ownsRow n0 t 4 v k xs) {q:Nat} (e:v.ownBlock=some q):n0≤q:=(h.lt q e).1
theorem PB.next {W w2:World} {g' cap':Nat} {L:List St} {s:St} {ob:Obj} (hB:Bg < n0) (hn:n0≤W.heap.size) (h3:W.heap[Bg]?=some (.cells #[.int .i64 regs,v] 155 (0,0))) (h0:W.ownsRow n0 238 4 v L.length (stcs .u8 L))
 (hg:(W.alloc ob).grownBy w2 v.ownBlock) (h8:n0≤g') (h1:w2.ownsRow n0 238 4 (.slice (some ⟨g',0,none⟩) (L.length+1) cap') (L.length+1) (stcs .u8 (L ++ [s]))) :
 PB (w2.setCell ⟨Bg,1,none⟩ (.slice (some ⟨g',0,none⟩) (L.length+1) cap')) n0 Bg regs (L ++ [s])∧w2.cell? ⟨Bg,1,none⟩=some v∧w2.frozen? ⟨Bg,1,none⟩=false ∧
  (∀ k,k < n0→k≠Bg→(w2.setCell ⟨Bg,1,none⟩ (.slice (some ⟨g',0,none⟩) (L.length+1) cap')).heap[k]?=W.heap[k]?)∧KeepsOthers W (w2.setCell ⟨Bg,1,none⟩ (.slice (some ⟨g',0,none⟩) (L.length+1) cap')) ∧
  (w2.setCell ⟨Bg,1,none⟩ (.slice (some ⟨g',0,none⟩) (L.length+1) cap')).os=W.os∧(w2.setCell ⟨Bg,1,none⟩ (.slice (some ⟨g',0,none⟩) (L.length+1) cap')).tape=W.tape∧(w2.setCell ⟨Bg,1,none⟩ (.slice (some ⟨g',0,none⟩) (L.length+1) cap')).output=W.output:=by
 have hold:∀ k,k < n0→w2.heap[k]?=W.heap[k]?:=fun k hk=>(hg.block k (by simp;omega) (fun e=>by have:=own_from h0 e.symm;omega)).trans (heap_old W _ k (by omega))
 have h2:=(hold Bg hB).trans h3
 obtain ⟨_,c1,f1,_⟩:=obj_cells h2
 have h9:W.heap.size≤w2.heap.size:=by have:=hg.size;simp at this;omega
 have h4:(w2.setCell ⟨Bg,1,none⟩ (.slice (some ⟨g',0,none⟩) (L.length+1) cap')).heap[Bg]?=some (.cells #[.int .i64 regs,.slice (some ⟨g',0,none⟩) (L.length+1) cap'] 155 (0,0)):=by
  obtain ⟨h5,hk⟩:=Array.getElem?_eq_some_iff.1 h2
  show (w2.heap.modify Bg _)[Bg]?=_
  rw [Array.getElem?_eq_getElem (by rw [Array.size_modify];exact h5),Array.getElem_modify_self,hk]
  rfl
 refine ⟨⟨hB,by simp [World.setCell];omega,_,h4,?_⟩,c1,f1,fun k hk h6=>(Below.heap_setCell _ _ _ _ h6).trans (hold k hk),?_,hg.os,hg.tape,hg.output⟩
 · have:=h1.kept (grown_set' w2 Bg 1 (.slice (some ⟨g',0,none⟩) (L.length+1) cap')) (.inr (by simp [Value.ownBlock];omega))
   simpa using this
 · refine ((KeepsOthers.alloc W ob).trans (KeepsOthers.of_grownBy hg fun j o ej hj=>?_)).trans (KeepsOthers.setCell _ _ _)
   rcases (h0.alloc ob).2 with ⟨rfl,_⟩ | ⟨g,cap,cur,rfl,_,h7,_⟩
   · simp [Value.ownBlock] at ej
   · obtain rfl:g=j:=by simpa [Value.ownBlock] using ej
     rw [h7] at hj;cases hj;rfl
theorem PB.own {X Y:World} {row:Option Nat} {L:List St} (h:PB X n0 Bg regs L) (hn:n0≤B) (hg:X.grownBy Y row) (hr:∀ r,row=some r→B≤r∧∃ o:Obj,X.heap[r]?=some o∧o.isCells=false):PB Y n0 Bg regs L:=by
 obtain ⟨h1,h2,v,h3,h4⟩:=h
 refine ⟨h1,Nat.le_trans h2 hg.size,v,(hg.block Bg (by omega) (fun e=>by have:=(hr Bg e.symm).1;omega)).trans h3,h4.kept hg ?_⟩
 rcases h4.2 with ⟨rfl,_⟩ | ⟨g,cap,cur,rfl,_,h0,_⟩
 · exact .inl rfl
 · refine .inr fun e'=>?_
   obtain ⟨_,o,ho,hc⟩:=hr g (by simpa [Value.ownBlock] using e'.symm)
   rw [h0] at ho;cases ho;cases hc
def wrOne (C:Ck) (i:Nat):List St:=if readsB C i=true then ⟨0,0,i,0⟩ :: ((List.range C.told).filter (fun r=>decide (C.m r i≠0))).map (fun r:Nat=>(⟨1,1+(r:Int),0,C.m r i⟩:St)) else []
def wrTo (C:Ck) (pre:List Nat):List St:=(pre.map (wrOne C)).flatten
theorem wrTo_snoc (C:Ck) (pre:List Nat) (i:Nat):wrTo C (pre ++ [i])=wrTo C pre ++ wrOne C i:=by unfold wrTo;simp
def wrAdd (C:Ck) (i k:Nat):List St:=((List.range k).filter (fun r=>decide (C.m r i≠0))).map (fun r:Nat=>(⟨1,1+(r:Int),0,C.m r i⟩:St))
theorem wrAdd_zero (C:Ck) (i:Nat):wrAdd C i 0=[]:=rfl
theorem wrAdd_in (C:Ck) (i k:Nat) (h:C.m k i≠0):wrAdd C i (k+1)=wrAdd C i k ++ [⟨1,1+(k:Int),0,C.m k i⟩]:=by unfold wrAdd;rw [List.range_succ];simp [h]
theorem wrAdd_out (C:Ck) (i k:Nat) (h:C.m k i=0):wrAdd C i (k+1)=wrAdd C i k:=by unfold wrAdd;rw [List.range_succ];simp [h]
theorem wrAdd_le (C:Ck) (i k:Nat):(wrAdd C i k).length≤k:=by
 unfold wrAdd;rw [List.length_map];exact Nat.le_trans (List.length_filter_le _ _) (by simp)
theorem wrOne_yes {C:Ck} (h:readsB C i=true):wrOne C i=⟨0,0,i,0⟩ :: wrAdd C i C.told:=by unfold wrOne wrAdd;rw [if_pos h]
theorem wrOne_no {C:Ck} (h:readsB C i=false):wrOne C i=[]:=by unfold wrOne;simp [h]
theorem wrOne_le (C:Ck) (i:Nat):(wrOne C i).length≤C.told+1:=by
 cases h:readsB C i
 · rw [wrOne_no h];simp
 · rw [wrOne_yes h];have:=wrAdd_le C i C.told;simp;omega
theorem wrTo_le (C:Ck):∀ pre:List Nat,(wrTo C pre).length≤pre.length*(C.told+1)
 | []=>by simp [wrTo]
 | i :: pre=>by
  have h1:=wrTo_le C pre
  have h2:=wrOne_le C i
  have e:wrTo C (i :: pre)=wrOne C i ++ wrTo C pre:=by unfold wrTo;simp
  rw [e,List.length_append,List.length_cons,Nat.succ_mul]
  omega
def wrPut (pre:List Nat):List St:=(List.range pre.length).map (fun k:Nat=>(⟨2,(k:Int)+1,((pre.getD k 0:Nat):Int),0⟩:St))
theorem wrPut_snoc (pre:List Nat) (i:Nat):wrPut (pre ++ [i])=wrPut pre ++ [⟨2,(pre.length:Int)+1,i,0⟩]:=by
 unfold wrPut
 rw [List.length_append,List.length_singleton,List.range_succ,List.map_append]
 congr 1
 · apply List.map_congr_left
   intro k hk
   have:=List.mem_range.1 hk
   simp [this,List.getElem?_append_left]
 · simp
def wrAll (C:Ck) (gone kept:Nat):List St:=wrTo C (mems kept) ++ wrPut (mems gone)
end
section
open Gf
theorem wr_mem {B:Ck} {s:St} (h:s∈wrAll B gone kept):(∃ i∈mems kept,s=⟨0,0,(i:Int),0⟩)∨(∃ i∈mems kept,∃ r,r < B.told∧s=⟨1,1+(r:Int),0,B.m r i⟩)∨(∃ k,∃ hk:k < (mems gone).length,s=⟨2,(k:Int)+1,((mems gone)[k]:Int),0⟩):=by
 unfold wrAll wrTo at h
 rcases List.mem_append.1 h with h | h
 · obtain ⟨l,hl,hs⟩:=List.mem_flatten.1 h
   obtain ⟨i,hi,rfl⟩:=List.mem_map.1 hl
   cases hr:readsB B i
   · rw [wrOne_no hr] at hs;cases hs
   · rw [wrOne_yes hr] at hs
     rcases List.mem_cons.1 hs with rfl | hs
     · exact .inl ⟨i,hi,rfl⟩
     · unfold wrAdd at hs
       obtain ⟨r,h1,rfl⟩:=List.mem_map.1 hs
       exact .inr (.inl ⟨i,hi,r,List.mem_range.1 (List.mem_filter.1 h1).1,rfl⟩)
 · unfold wrPut at h
   obtain ⟨k,hk,rfl⟩:=List.mem_map.1 h
   have h0:=List.mem_range.1 hk
   exact .inr (.inr ⟨k,h0,by simp [h0]⟩)
theorem wr_len {B:Ck} (gone kept:Nat) (hB:B.told≤8):(wrAll B gone kept).length≤160:=by
 have h1:=wrTo_le B (mems kept)
 have h2:∀ s,(mems s).length≤16:=fun s=>Nat.le_trans (List.length_filter_le _ _) (by simp)
 have h3:(mems kept).length*(B.told+1)≤16*9:=Nat.mul_le_mul (h2 kept) (by omega)
 have h4:=h2 gone
 unfold wrAll wrPut
 simp only [List.length_append,List.length_map,List.length_range]
 omega
theorem wr_ok {B:Ck} (hB:B.told=(mems gone).length) (h0:B.told≤8) (hk:∀ i∈mems kept,i < n) (hg:∀ i∈mems gone,i < n):okProg (1+((mems gone).length:Int)) (wrAll B gone kept) (n:Int):=by
 have hl:=wr_len gone kept h0
 refine ⟨⟨by omega,by omega,by omega⟩,fun i hi=>?_⟩
 rcases wr_mem (List.getElem_mem hi) with ⟨j,hj,e⟩ | ⟨j,hj,r,hr,e⟩ | ⟨k,h1,e⟩
 · have:=hk j hj
   rw [e]
   exact .inl ⟨.inl rfl,by show (0:Int)≤0;omega,by show (0:Int) < _;omega,by show (0:Int)≤(j:Int);omega,by show (j:Int) < _;omega⟩
 · rw [e]
   exact .inr ⟨rfl,by show (0:Int)≤1+(r:Int);omega,by show (1+(r:Int)) < _;omega,by show (0:Int)≤0;omega,by show (0:Int) < _;omega,by show (1+(r:Int))≠0;omega⟩
 · have:=hg _ (List.getElem_mem h1)
   rw [e]
   exact .inl ⟨.inr rfl,by show (0:Int)≤(k:Int)+1;omega,by show ((k:Int)+1) < _;omega,by show (0:Int)≤((mems gone)[k]:Int);omega,by show ((mems gone)[k]:Int) < _;omega⟩
theorem plan_of (hD:D≤12) (hG:G≤4) {C:Ck} (hC:tells (cks D L G) (mems (goneN (D+L+G) lost))=some C) :
 Plan (mf (matL D L G)) D (L+G) (mems (goneN (D+L+G) lost)) (fewestS 8 C (keptN (D+L+G) lost)).1∧ToldBy (ck0 (mf (matL D L G)) D (L+G)) (Dual (mf (matL D L G)) D (D+(L+G))) (mems (goneN (D+L+G) lost)) C:=by
 have hc:=mat_code D L G hD hG
 rcases hc.told (mems (goneN (D+L+G) lost)) with ⟨C',h1,h2⟩ | ⟨h1,_⟩
 · have h0:tells (cks D L G) (mems (goneN (D+L+G) lost))=some C':=h1
   rw [hC] at h0
   obtain rfl:=Option.some.inj h0
   exact ⟨hc.plan h2 (fewest_found 8 C _).1,h2⟩
 · have h0:tells (cks D L G) (mems (goneN (D+L+G) lost))=none:=h1
   rw [hC] at h0;cases h0
def cmpP (D L G lost:Nat) (C:Ck):List St:=wrAll (fewestS 8 C (keptN (D+L+G) lost)).1 (goneN (D+L+G) lost) (keptN (D+L+G) lost)
end
end Go.Proofs.YthcgahldacpolaaGreatDoor
