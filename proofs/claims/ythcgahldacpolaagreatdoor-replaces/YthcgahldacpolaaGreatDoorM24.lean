import Derived.Test.YthcgahldacpolaaGreatDoorM23
set_option maxRecDepth 100000
set_option maxHeartbeats 8000000
namespace Go.Proofs.YthcgahldacpolaaGreatDoor
open Go.RowKit Go.Deep
variable {a:Act} {ops:Array Oper} {cs:Array Value} {Q:Exit→Act→World→Prop} {F:Foot} {l:List Nat} {D n ar p L G ps ho t f:Nat} {Dn:Nat→Bool} {S:Nat→Prop} {v:Value} {w w' w0:World}
section
open Go.Shelf Gf
def pageB (D:Nat) (P l:List Nat) (k:Nat):List Nat:=be (P.getD (k+1) 0) 4 ++ (l.drop (k*(D*44 - 4))).take (D*44 - 4)
def Arr.pagesTo (A:Arr) (D L G:Nat) (P l:List Nat):Nat→Arr
 | 0=>A
 | k+1=>(Arr.pagesTo A D L G P l k).putAt (List.range A.n) (P.getD k 0) (fun i=>(Rec.shard ((stripeL D L G (pageB D P l k)).getD i [])).blk)
theorem pagesTo_n (A:Arr) (D L G:Nat) (P l:List Nat):∀ k,(A.pagesTo D L G P l k).n=A.n∧(A.pagesTo D L G P l k).nb=A.nb∧(A.pagesTo D L G P l k).wait=A.wait∧(A.pagesTo D L G P l k).lost=A.lost
 | 0=>⟨rfl,rfl,rfl,rfl⟩
 | k+1=>pagesTo_n A D L G P l k
theorem pagesTo_fit {A:Arr} (h:A.fit) {D L G:Nat} (hD:D≤12) (hG:G≤4) (hn:A.n=D+L+G) (P l:List Nat):∀ k,(A.pagesTo D L G P l k).fit
 | 0=>h
 | k+1=>(pagesTo_fit h hD hG hn P l k).putAt _ _ _ fun i hi=>by
  rw [List.mem_range,hn] at hi
  have h0:i < (stripeL D L G (pageB D P l k)).length:=by rw [stripeL_len];exact hi
  have e:(stripeL D L G (pageB D P l k)).getD i []=(stripeL D L G (pageB D P l k))[i]:=by simp [h0]
  have h1:(Rec.shard ((stripeL D L G (pageB D P l k)).getD i [])).ok:=by rw [e];exact stripeL_row hD hG _ i h0
  exact ⟨blk_len h1,blk_lt h1⟩
theorem pageB_len (h0:1≤D) (P l:List Nat) (k:Nat):(pageB D P l k).length≤D*44:=by
 unfold pageB
 rw [List.length_append,be_len,List.length_take]
 omega
theorem pageB_lt (hl:∀ x∈l,x < 256) (P:List Nat) (k:Nat):∀ x∈pageB D P l k,x < 256:=by
 intro x hx
 unfold pageB at hx
 rw [List.mem_append] at hx
 rcases hx with hx | hx
 · exact be_lt _ _ x hx
 · exact hl x (List.mem_of_mem_drop (List.mem_of_mem_take hx))
theorem own_outside {base:Nat} {e:TypeId} {size:Nat} {xs:List Value} (h:w.ownsRow base e size v n xs) (hO:Outside S w w') (hS:∀ k,S k→k < base):w'.ownsRow base e size v n xs:=by
 refine ⟨h.1,?_⟩
 rcases h.2 with h0 | ⟨g,cap,cur,e1,e2,e3,r⟩
 · exact .inl h0
 · exact .inr ⟨g,cap,cur,e1,e2,(hO.block g (Array.getElem?_eq_some_iff.1 e3).1 (fun q=>by have:=hS g q;omega)).trans e3,r⟩
theorem KpS.of_outside (h:Outside S w w'):KpS (fun k=>¬ S k) w w':=⟨h.size,fun k hk hn=>h.block k hk hn⟩
theorem ints_at {K:Nat→Prop} (h:Ints K w v l) (hl:l≠[]):∃ b off c,v=.slice (some ⟨b,off,none⟩) l.length c∧∀ i (hi:i < l.length),w.cell? ⟨b,off+i,none⟩=some (.int .i64 ((l[i]:Nat):Int)):=by
 obtain ⟨ao,c,rfl,_,h3⟩:=h
 obtain ⟨b,off,rfl,_,_,h4⟩:=h3 hl
 exact ⟨b,off,c,rfl,h4⟩
theorem Tryz.infoByteP:(Tryz.prog.info? 5).map (fun i=>(i.zero,i.size,i.bytes))=some (some (.int .u8 0),1,1):=by kernel_rfl
theorem writePages_any {v D' L' G' nn:Nat} {pg ob:Value} {off:Bool} {A:Arr} (hA:ArcAt w ar v D' L' G' t f nn pg ob off) (hV:Vol w v p D L G ps ho A F) (hF:Free F p A.n v) (qc:¬ F.has p A.n ar) (hf:A.fit) (hn:A.n=D+L+G) (hr:rightB D L G=true) (kc:1≤D) (hD:D≤12) (hL:1≤L) (qd:L≤4) (hG:G≤4) (kf:D % L=0) (qe:D+L+G≤16)
 (hw:A.wait < 0) (k0:∀ i,A.lost i=false) (g cap base:Nat) (l:List Nat) (h5:w.ownsRow base 5 1 (.slice (some ⟨g,0,none⟩) l.length cap) l.length (bts l)) (qf:∀ x∈l,x < 256) (x1:l.length≤1000000) (k5:∀ k,F.has p A.n k→k < base)
 (vp:Value) (P:List Nat) (hP:Ints (fun k=>¬ F.has p A.n k) w vp P) (ko:∀ x∈P,x < A.nb) (qg:∀ k,k < P.length→k*(D*44 - 4)≤l.length) :
 Calls Tryz.prog 104 #[.pointer (some ⟨ar,0,none⟩),.slice (some ⟨g,0,none⟩) l.length cap,vp] w fun e w'=>e=.returned .nilIface∧ArrAt w' p (A.pagesTo D L G P l P.length) F∧Outside (F.has p A.n) w w':=by
 obtain ⟨i0,kp,kr,kv,kx⟩:=info_parts Tryz.infoByteP
 obtain ⟨pa,pc,rfl,ky,_⟩:=id hP
 have kg:=pageSize_any hA hV.vol kc (by omega)
 obtain ⟨sz,kh⟩:∃ sz,D*44 - 4=sz:=⟨_,rfl⟩
 have qh:40≤sz∧sz≤524:=by omega
 rw [kh] at kg
 have x2:=hf.nb
 have H0:=hide4 hA hV h5 hP
 clear hA hV h5 hP
 go_enter Tryz.func104,Tryz.ntmps104
 go_wp2_with fail
 refine kg.mono ?_
 rintro e w1 ⟨rfl,rfl⟩
 clear kg
 go_wp2
 go_loopw [17] (fun i wr=>∃ k:Nat,i=.int .i64 (k:Nat)∧k≤P.length∧ArrAt wr p (A.pagesTo D L G P l k) F∧Outside (F.has p A.n) w1 wr) (fun i _=>P.length - (intOf i).toNat)
 case atStart=>exact ⟨0,rfl,Nat.zero_le _,H0.out.2.1.arr,Outside.refl _ _⟩
 case round=>
  obtain ⟨k,rfl,hk,k6,hO⟩:=hrel
  by_cases hs:k < P.length
  · obtain ⟨hA,hV,h5,hP⟩:=H0.out
    have kz:=hP.keep (KpS.of_outside hO)
    obtain ⟨b,bo,c',e1,ki⟩:=ints_at kz (fun e=>by rw [e] at hs;simp at hs)
    simp only [Value.slice.injEq] at e1
    obtain ⟨rfl,_,rfl⟩:=e1
    have c1:=ki k hs
    obtain ⟨y,hy⟩:∃ y,P[k]=y:=⟨_,rfl⟩
    rw [hy] at c1
    have kj:y < A.nb:=by rw [← hy];exact ko _ (List.getElem_mem hs)
    obtain ⟨nx,hx⟩:∃ nx,P.getD (k+1) 0=nx:=⟨_,rfl⟩
    have kk:(k+1 < P.length∧wr.cell? ⟨b,bo+(k+1),none⟩=some (.int .i64 (nx:Nat)))∨(¬ k+1 < P.length∧nx=0):=by
     by_cases h1:k+1 < P.length
     · have:=ki (k+1) h1
       have e:P.getD (k+1) 0=P[k+1]:=by simp [h1]
       rw [← e,hx] at this
       exact .inl ⟨h1,this⟩
     · exact .inr ⟨h1,by rw [← hx];simp [show P.length≤k+1 by omega]⟩
    have qi:nx < 1000001:=by
     rcases Nat.lt_or_ge (k+1) P.length with h1 | h1
     · have e:P.getD (k+1) 0=P[k+1]:=by simp [h1]
       rw [← hx,e];have:=ko _ (List.getElem_mem h1);omega
     · rw [← hx];simp [h1]
    have q0:=pagesTo_n A D L G P l k
    have q9:Vol wr v p D L G ps ho (A.pagesTo D L G P l k) F:=hV.turn hF hO k6
    have hg:=own_outside h5 hO k5
    have km:=hA.keep (hO.block _ hA.lt qc)
    obtain ⟨ca,_⟩:=km.cells
    have H1:=hide8 k6 hO q9 hg q0 km hx hy
    clear k6 hO q9 hg q0 km hx hy ki kz hA hV h5 hP
    have kn:=qg k hs
    rw [kh] at kn
    have qj:l.length≤cap:=by
     rcases H1.out.2.2.2.1.2 with ⟨e,_⟩ | ⟨g',cap',cur,e,_,_,hc,_⟩
     · cases e
     · simp only [Value.slice.injEq] at e;omega
    have he:(k+1)*sz=k*sz+sz:=Nat.succ_mul k sz
    have qk:(k:Int)*(sz:Int)=((k*sz:Nat):Int):=by rw [Int.natCast_mul]
    have qm:((k:Int)+1)*(sz:Int)=(((k+1)*sz:Nat):Int):=by rw [Int.natCast_mul];rfl
    obtain ⟨ks,kd⟩:∃ ks,k*sz=ks:=⟨_,rfl⟩
    obtain ⟨ks1,hm⟩:∃ ks1,(k+1)*sz=ks1:=⟨_,rfl⟩
    rw [kd] at qk he kn
    rw [hm] at qm he
    obtain ⟨bb,qa⟩:∃ bb,min ks1 l.length=bb:=⟨_,rfl⟩
    have x3:ks≤bb:=by omega
    have x4:bb≤cap:=by omega
    have hh:bb - ks≤524:=by omega
    have hp:((l.drop ks).take sz).length=bb - ks:=by rw [List.length_take,List.length_drop];omega
    have qn:∀ ats ty w,(Builtin.min_ ats ty #[.int .i64 (ks1:Nat),.int .i64 (l.length:Nat)]).run Tryz.prog w=.ok (.int .i64 (bb:Nat)) w:=fun ats ty w=>by
     rw [run_min_int]
     by_cases h1:((l.length:Nat):Int) < ((ks1:Nat):Int)
     · rw [if_pos h1,show bb=l.length by omega]
     · rw [if_neg h1,show bb=ks1 by omega]
    have hi:∀ W:World,W.ownsRow base 5 1 (.slice (some ⟨g,0,none⟩) l.length cap) l.length (bts l)→Src Tryz.prog 1 33 (.slice (if cap=ks then some ⟨g,0,none⟩ else some ⟨g,ks,none⟩) (bb - ks) (cap - ks)) (bb - ks) (bts ((l.drop ks).take sz)) W:=fun W hW=>by
     have qo:W.rangeAt g 0 (bts l):=fun j u hu=>by have:=hW.cells (g:=g) rfl j u hu;rw [add0] at this;rw [Nat.zero_add];exact this
     by_cases hz:cap=ks
     · have h0:(l.drop ks).take sz=[]:=List.eq_nil_of_length_eq_zero (by omega)
       rw [if_pos hz,h0,show bb - ks=0 by omega]
       exact Src.ofSlice W Tryz.underlying33 ⟨g,0,none⟩ 0 (cap - ks) (bts []) rfl (fun j u hu=>by simp [bts] at hu) (fun u hu=>by simp [bts] at hu)
     · rw [if_neg hz]
       have qb:=range_take sz (range_drop ks qo)
       rw [Nat.zero_add] at qb
       exact Src.ofSlice W Tryz.underlying33 ⟨g,ks,none⟩ (bb - ks) (cap - ks) _ (by rw [bts_len,hp,Nat.mul_one]) (fun j u hu=>by rw [Addr.add_mid];exact qb j u hu) (fun u hu=>by unfold bts at hu;rw [List.mem_map] at hu;obtain ⟨x,_,rfl⟩:=hu;rfl)
    have hj:∀ (W:World) (u:Value),W.ownsRow wr.heap.size 5 1 u (0+4+(bb - ks)) ([] ++ bts (be nx 4) ++ bts ((l.drop ks).take sz))→Bs W u (pageB D P l k):=fun W u hu=>by
     have e:[] ++ bts (be nx 4) ++ bts ((l.drop ks).take sz)=bts (pageB D P l k):=by
      unfold pageB
      rw [kh,kd,H1.out.2.2.2.2.2.2.1,bts_append,List.nil_append]
     rw [e] at hu
     exact Bs.of_owns hu (pageB_lt qf P k) (Nat.le_trans (pageB_len kc P l k) (by omega))
    have h6:∀ (W:World) (u:Value),Below wr.heap.size wr W→Bs W u (pageB D P l k)→Calls Tryz.prog 126 #[.pointer (some ⟨v,0,none⟩),.int .i64 (y:Nat),u] W fun e w'=>e=.returned .nilIface∧ArrAt w' p (A.pagesTo D L G P l (k+1)) F∧Outside (F.has p A.n) w1 w':=fun W u hW hu=>by
     obtain ⟨q1,q2,q3,q4,q5,q6,q7,q8⟩:=H1.out
     have qp:=q3.below hW (Nat.le_refl _)
     have qq:Free F p (A.pagesTo D L G P l k).n v:=by rw [q5.1];exact hF
     have hc:=writeStripe_ok qp qq (pagesTo_fit hf hD hG hn P l k) (by rw [q5.1];exact hn) hr kc hD hL qd hG kf qe y (by rw [q5.2.1];exact kj) (by rw [q5.2.2.1];exact hw) (fun i=>by rw [q5.2.2.2];exact k0 i) u (pageB D P l k) hu (pageB_len kc P l k)
     rw [q5.1] at hc
     refine hc.mono ?_
     rintro e w' ⟨rfl,qs,qv⟩
     refine ⟨rfl,?_,q2.trans ((Outside.of_all hW _).trans qv)⟩
     have ey:P.getD k 0=y:=by rw [← q8];simp [hs]
     show ArrAt w' p ((A.pagesTo D L G P l k).putAt (List.range A.n) (P.getD k 0) (fun i=>(Rec.shard ((stripeL D L G (pageB D P l k)).getD i [])).blk)) F
     rw [ey];exact qs
    have ke:=hide2 hj h6
    clear hj h6
    have HK:=hide6 kd hm qa hp kn he
    have x5:IntKind.u64.wrap (nx:Int)=(nx:Int):=by rw [IntKind.wrap_u64];omega
    have qx:ks≤1000000∧ks1≤1000524∧bb≤1000000:=by omega
    clear kd hm qa hp he
    rcases kk with ⟨h1,c2⟩ | ⟨h1,qy⟩
    · have qz:(k:Int)+1 < ((P.length:Nat):Int):=by omega
      go_wp2_with fail
      refine (append_num wr.heap.size (.slice none 0 0) 0 [] nx 4 wr (World.ownsRow_nil _ _ _ _) (Nat.le_refl _) (by decide) (by decide)).mono ?_
      rintro e w2 ⟨v2,rfl,k7,h4,h7⟩
      have h3:Below wr.heap.size wr w2:=⟨h4.os,h4.tape,h4.output,h4.size,fun k hk=>h4.block k hk (fun e=>by simp [Value.ownBlock] at e)⟩
      have h2:=ownsRow_below H1.out.2.2.2.1 h3
      have h8:=H1.out.2.2.2.2.2.1.keep (h3.block _ H1.out.2.2.2.2.2.1.lt)
      obtain ⟨cb,_⟩:=h8.cells
      have h9:Src Tryz.prog 1 33 (.slice (if cap=ks then some ⟨g,0,none⟩ else some ⟨g,ks,none⟩) (bb - ks) (cap - ks)) (bb - ks) (bts ((l.drop ks).take sz)) w2:=hi w2 h2
      have H2:=hide5 k7 h3 h9 h2 h7
      clear k7 h4 h3 h9 h2 h7 h8
      go_wp2_with (
       at_builtin;
       refine wpList_append_from _ rfl (.tmp 35) (.tmp 47) 33 33 rfl wr.heap.size 5 i0 (.int .u8 0) 1 1 Tryz.underlying33 kp kr kv kx rfl v2 (0+4) ([] ++ bts (be nx 4)) (by rfl) (by exact H2.out.1) _ (by rfl) (bb - ks) (bts ((l.drop ks).take sz)) (by exact H2.out.2.2.1) (by unfold maxLen;omega) (by omega) (by exact H2.out.2.1.size) ?_;
       intro v3 w3 k8 k9 hq;
       have hh:Below wr.heap.size wr w3:=H2.out.2.1.grown k9 H2.out.2.1.size (fun k e=>(H2.out.1.lt k e).1);
       have ha:=H1.out.2.2.2.2.2.1.keep (hh.block _ H1.out.2.2.2.2.2.1.lt);
       obtain ⟨cc,_⟩:=ha.cells;
       have H3:=hide2 k8 hh;
       clear k8 hh k9 hq ha)
      all_goals
       refine (ke.out.2 w3 v3 H3.out.2 (ke.out.1 w3 v3 H3.out.1)).mono ?_
       rintro e w4 ⟨rfl,ka,kb⟩
       have H4:=hide2 ka kb
       clear ka kb
       go_wp2
       first
        | exact ⟨⟨k+1,by go_num,by omega,H4.out.1,H4.out.2⟩,by simp only [intOf];omega⟩
        | (have hz:cap=ks:=by assumption
           subst hz
           go_roundw
           case rel=>exact ⟨k+1,by go_num,by omega,H4.out.1,H4.out.2⟩
           case measure=>
            show P.length - ((k:Int)+1).toNat < P.length - ((k:Nat):Int).toNat
            omega)
    · have qz:¬ (k:Int)+1 < ((P.length:Nat):Int):=by omega
      subst qy
      go_wp2_with fail
      refine (append_num wr.heap.size (.slice none 0 0) 0 [] 0 4 wr (World.ownsRow_nil _ _ _ _) (Nat.le_refl _) (by decide) (by decide)).mono ?_
      rintro e w2 ⟨v2,rfl,k7,h4,h7⟩
      have h3:Below wr.heap.size wr w2:=⟨h4.os,h4.tape,h4.output,h4.size,fun k hk=>h4.block k hk (fun e=>by simp [Value.ownBlock] at e)⟩
      have h2:=ownsRow_below H1.out.2.2.2.1 h3
      have h8:=H1.out.2.2.2.2.2.1.keep (h3.block _ H1.out.2.2.2.2.2.1.lt)
      obtain ⟨cb,_⟩:=h8.cells
      have h9:Src Tryz.prog 1 33 (.slice (if cap=ks then some ⟨g,0,none⟩ else some ⟨g,ks,none⟩) (bb - ks) (cap - ks)) (bb - ks) (bts ((l.drop ks).take sz)) w2:=hi w2 h2
      have H2:=hide5 k7 h3 h9 h2 h7
      clear k7 h4 h3 h9 h2 h7 h8
      go_wp2_with (
       at_builtin;
       refine wpList_append_from _ rfl (.tmp 35) (.tmp 47) 33 33 rfl wr.heap.size 5 i0 (.int .u8 0) 1 1 Tryz.underlying33 kp kr kv kx rfl v2 (0+4) ([] ++ bts (be 0 4)) (by rfl) (by exact H2.out.1) _ (by rfl) (bb - ks) (bts ((l.drop ks).take sz)) (by exact H2.out.2.2.1) (by unfold maxLen;omega) (by omega) (by exact H2.out.2.1.size) ?_;
       intro v3 w3 k8 k9 hq;
       have hh:Below wr.heap.size wr w3:=H2.out.2.1.grown k9 H2.out.2.1.size (fun k e=>(H2.out.1.lt k e).1);
       have ha:=H1.out.2.2.2.2.2.1.keep (hh.block _ H1.out.2.2.2.2.2.1.lt);
       obtain ⟨cc,_⟩:=ha.cells;
       have H3:=hide2 k8 hh;
       clear k8 hh k9 hq ha)
      all_goals
       refine (ke.out.2 w3 v3 H3.out.2 (ke.out.1 w3 v3 H3.out.1)).mono ?_
       rintro e w4 ⟨rfl,ka,kb⟩
       have H4:=hide2 ka kb
       clear ka kb
       go_wp2
       first
        | exact ⟨⟨k+1,by go_num,by omega,H4.out.1,H4.out.2⟩,by simp only [intOf];omega⟩
        | (have hz:cap=ks:=by assumption
           subst hz
           go_roundw
           case rel=>exact ⟨k+1,by go_num,by omega,H4.out.1,H4.out.2⟩
           case measure=>
            show P.length - ((k:Int)+1).toNat < P.length - ((k:Nat):Int).toNat
            omega)
  · have x0:k=P.length:=by omega
    subst x0
    have H1:=hide2 k6 hO
    clear k6 hO
    go_wp2
    go_ret
    exact ⟨rfl,H1.out.1,H1.out.2⟩
end
theorem framed_two {a':Act} {d lo:Nat} {vs:List Value} (h0:a'.tmps.size=a.tmps.size) (h2:a'.defers=a.defers) (h1:lo+vs.length≤a.tmps.size) (hd:d < lo) (hv:a'.eval (.tmp d)=v) (h3:∀ i,i < vs.length→a'.eval (.tmp (lo+i))=vs.getD i undef) (hs:∀ s,s≠d→s < lo∨lo+vs.length≤s→a'.eval (.tmp s)=a.eval (.tmp s)):a'=Act.putFrom (a.put (some d) v) lo vs:=by
 obtain ⟨p1,p2⟩:=putFrom_size vs (a.put (some d) v) lo
 refine act_ext (h0.trans ((p1.trans (rf_size _ _ _)).symm)) (h2.trans p2.symm) fun s _=>?_
 rw [putFrom_eval vs _ lo s (by rw [rf_size];omega)]
 by_cases e:lo≤s∧s < lo+vs.length
 · rw [if_pos e]
   have:=h3 (s - lo) (by omega)
   rwa [show lo+(s - lo)=s by omega] at this
 · rw [if_neg e]
   by_cases e2:s=d
   · subst e2
     rw [rf_same _ _ _ (by omega),hv]
   · rw [rf_other _ _ _ _ (fun q=>e2 q.symm)]
     exact hs s e2 (by omega)
noncomputable def RCm:Array Oper:=((Tryz.f78.body.bind (rgf · 5))).getD #[]
def shCm:List (Op×Option Nat×List Nat):=[(Op.move (.tmp 0),some 19,[]),
 (Op.nilCheck (.tmp 19),some 20,[0]),
 (Op.fieldAddr 98 (.tmp 20) 0,some 21,[1]),
 (Op.load 91 (.tmp 21),some 22,[2]),
 (Op.call { callee:=Callee.value (Operand.func 33),args:=#[.tmp 22],argTypes:=#[91] },some 23,[3]),
 (Op.move (.tmp 0),some 24,[]),
 (Op.nilCheck (.tmp 24),some 25,[5]),
 (Op.fieldAddr 98 (.tmp 25) 1,some 26,[6]),
 (Op.fieldAddr 93 (.tmp 26) 1,some 27,[7]),
 (Op.load 43 (.tmp 27),some 28,[8]),
 (Op.binOp BinOp.add 43 (.tmp 28) (Operand.const (Value.int IntKind.u64 1)) 43,some 29,[9]),
 (Op.move (.tmp 2),some 30,[]),
 (Op.indexAddr 94 (.tmp 30) (Operand.const (Value.int IntKind.i64 0)),some 31,[11]),
 (Op.load 3 (.tmp 31),some 32,[12]),
 (Op.move (.tmp 7),some 33,[]),
 (Op.call { callee:=Callee.builtin Builtin.len,args:=#[.tmp 33],argTypes:=#[33] },some 34,[14]),
 (Op.build 93 #[(0,.tmp 23),(1,.tmp 29),(2,.tmp 32),(3,.tmp 34)],some 35,[4,10,13,15]),
 (Op.alloc 93,some 9,[]),
 (Op.store 93 (.tmp 9) (.tmp 35),none,[17,16,4,0,1,2,3,4,5,6,7,8,9,10,11,12,13,14,15,16,17])]
theorem RCm_shape:RegShape RCm 9 36 shCm:=regShape (by kernel_rfl) (by kernel_rfl)
theorem op_len_bytes {o:Oper} {s:Operand} (ho:o.op=.call { callee:=.builtin .len,args:=#[s],argTypes:=#[33] }) {so:Option Addr} {n c:Nat} (hx:a.eval s=.slice so n c) (w:World):(execOp a.eval o).run Tryz.prog w=.ok (.value (.int .i64 n)) w:=by
 unfold execOp
 simp only [ho,resolve,invoke,builtin,Sem.run_bind,Sem.run_pure,Result.andThen_ok,List.map_toArray,List.map_cons,List.map_nil,hx]
 simp [Builtin.len_,run_underlying Tryz.underlying33,goInt]
def isRoot (w:World) (b:Nat):Prop:=∃ cs:Array Value,cs.size=6∧w.heap[b]?=some (.cells cs 93 (0,0))
def VCm (s ar v D L G t m pb po pn pc f:Nat) (so:Option Addr) (cap:Nat) (i:Nat) (u:Value) (w:World):Prop:=match i with
 | 0 | 1 | 2 | 5 | 6=>u=.pointer (some ⟨ar,0,none⟩)
 | 3=>u=.pointer (some ⟨v,0,none⟩)
 | 4=>u=.agg #[.int .i64 D,.int .i64 L,.int .i64 G]
 | 7=>u=.pointer (some ⟨ar,1,none⟩)
 | 8=>u=.pointer (some ⟨ar,4,none⟩)
 | 9=>u=.int .u64 t
 | 10=>u=.int .u64 ((t+1:Nat):Int)
 | 11=>u=.slice (some ⟨pb,po,none⟩) pn pc
 | 12=>u=.pointer (some ⟨pb,po,none⟩)
 | 13=>u=.int .i64 f
 | 14=>u=.slice so m cap
 | 15=>u=.int .i64 m
 | 16=>u=.agg (rootA D L G (t+1) f m)
 | 17=>∃ b,u=.pointer (some ⟨b,0,none⟩)∧s≤b∧isRoot w b
 | 18=>∃ b,s≤b∧w.heap[b]?=some (.cells (rootA D L G (t+1) f m) 93 (0,0))
 | _=>True
def BCm (w0:World) (Dn:Nat→Bool) (w:World):Prop:=Below w0.heap.size w0 w∧(∀ b b',w0.heap.size≤b→w0.heap.size≤b'→isRoot w b→isRoot w b'→b=b')∧(Dn 17=false→∀ b,w0.heap.size≤b→¬ isRoot w b)
theorem BCm_pure (h:BCm w0 Dn w) (i:Nat) (hi:i≠17):BCm w0 (upd Dn i) w:=⟨h.1,h.2.1,fun q=>h.2.2 (by unfold upd at q;rwa [if_neg (fun e=>hi e.symm)] at q)⟩
theorem root_zero (w:World):(zeroValue 93).run Tryz.prog w=.ok (.agg (rootA 0 0 0 0 0 0)) w:=by
 obtain ⟨i0,h0,h1⟩:∃ i0,Tryz.prog.info? 93=some i0∧i0.zero=some (.agg (rootA 0 0 0 0 0 0)):=by
  have:(Tryz.prog.info? 93).map (fun i=>i.zero)=some (some (.agg (rootA 0 0 0 0 0 0))):=by kernel_rfl
  rw [Option.map_eq_some_iff] at this
  exact this
 simp [zeroValue,typeInfo,Sem.run_bind,h0,h1]
theorem rootA_info (D L G t f n:Nat):(Tryz.prog.info? 93).map (fun i=>i.size)=some (rootA D L G t f n).size:=by kernel_rfl
theorem rootA_one (D L G t f n:Nat):(rootA D L G t f n).all (fun v=>v.oneCell')=true:=by simp [rootA,Value.oneCell']
theorem root_store {b:Nat} (h:w.heap[b]?=some (.cells cs 93 (0,0))) (hc:cs.size=6):(Instr.storeAt 93 (.pointer (some ⟨b,0,none⟩)) (.agg (rootA D L G t f n))).run Tryz.prog w=.ok () (w.setRow b (rootA D L G t f n)):=by
 simp only [Instr.storeAt,Instr.sureAddr,Sem.run_bind,Sem.run_pure,Result.andThen_ok,run_storeVar_row w b 93 93 cs (rootA D L G t f n) h (rootA_info D L G t f n) (by rw [hc];rfl) (rootA_one D L G t f n)]
theorem commit_region {v m cap pb po pn pc:Nat} {so:Option Addr} (hm:RCm=ops) (hV:VolAt w v p D L G ps ho) (hp:w.heap[ar]?=some (.cells cs 98 (0,0))) (h0:cs[0]?=some (.pointer (some ⟨v,0,none⟩))) (h4:cs[4]?=some (.int .u64 t)) (ht:t≤1000000000) (k9:1≤pn) (hx:w.cell? ⟨pb,po,none⟩=some (.int .i64 f))
 (ka:a.tmps.size=60) (e0:a.eval (.tmp 0)=.pointer (some ⟨ar,0,none⟩)) (e2:a.eval (.tmp 2)=.slice (some ⟨pb,po,none⟩) pn pc) (e7:a.eval (.tmp 7)=.slice so m cap)
 (hQ:∀ (w':World) (vs:List Value) (b:Nat),vs.length=17→w.heap.size≤b→w'.heap[b]?=some (.cells (rootA D L G (t+1) f m) 93 (0,0))→Below w.heap.size w w'→Q .normal (Act.putFrom (a.put (some 9) (.pointer (some ⟨b,0,none⟩))) 19 vs) w'):(Code.region 5 ops true).wp Tryz.prog Q a w:=by
 subst hm
 have hf:ar < w.heap.size:=(Array.getElem?_eq_some_iff.1 hp).1
 have n1:IntKind.u64.wrap ((t:Int)+1)=((t+1:Nat):Int):=by rw [IntKind.wrap_u64];omega
 refine region_factsS (by kernel_rfl) RCm_shape a w (by omega) (VCm w.heap.size ar v D L G t m pb po pn pc f so cap) (BCm w) ⟨(Below.refl _ w).drew,fun b b' hb _ hr _=>?_,fun _ b hb hr=>?_⟩ ?_ ?_
 · obtain ⟨c,_,hr⟩:=hr
   have:=(Array.getElem?_eq_some_iff.1 hr).1
   have k5:w.drew.heap.size=w.heap.size:=rfl
   omega
 · obtain ⟨c,_,hr⟩:=hr
   have:=(Array.getElem?_eq_some_iff.1 hr).1
   have k5:w.drew.heap.size=w.heap.size:=rfl
   omega
 · intro i hi
   match i,hi with
   | 0,_=>exact fun o a' w' Dn hg ho h6 hk h8 h9 h7 hB hV=>op_val (run_op_move ho ((hk.slot 0 (by omega)).trans e0) w') h6 ⟨BCm_pure hB _ (by decide),rfl,kq⟩
   | 1,_=>
    intro o a' w' Dn hg ho h6 hk h8 h9 h7 hB hV
    have u0:a'.eval (.tmp 19)=.pointer (some ⟨ar,0,none⟩):=hV 0 (h7 0 (by decide))
    exact op_val (run_op_nil ho u0 w') h6 ⟨BCm_pure hB _ (by decide),rfl,kq⟩
   | 2,_=>
    intro o a' w' Dn hg ho h6 hk h8 h9 h7 hB hV
    have u0:a'.eval (.tmp 20)=.pointer (some ⟨ar,0,none⟩):=hV 1 (h7 1 (by decide))
    exact op_val (v:=.pointer (some ⟨ar,0,none⟩)) (by simp only [execOp,show o.op=Op.fieldAddr 98 (.tmp 20) 0 from ho,u0];go_simp) h6 ⟨BCm_pure hB _ (by decide),rfl,kq⟩
   | 3,_=>
    intro o a' w' Dn hg ho h6 hk h8 h9 h7 hB hV
    have u0:a'.eval (.tmp 21)=.pointer (some ⟨ar,0,none⟩):=hV 2 (h7 2 (by decide))
    have hc:=(hB.1.block ar hf).trans hp
    have c:w'.cell? ⟨ar,0,none⟩=some (.pointer (some ⟨v,0,none⟩)):=by simp [World.cell?,hc,h0]
    exact op_val (v:=.pointer (some ⟨v,0,none⟩)) (by simp only [execOp,show o.op=Op.load 91 (.tmp 21) from ho,u0];go_simp) h6 ⟨BCm_pure hB _ (by decide),rfl,kq⟩
   | 4,_=>
    intro o a' w' Dn hg ho h6 hk h8 h9 h7 hB k6
    have u0:a'.eval (.tmp 22)=.pointer (some ⟨v,0,none⟩):=k6 3 (h7 3 (by decide))
    have he:Dn 18=false:=by
     cases q:Dn 18 with
     | false=>rfl
     | true=>have:=(h9 18 q).2 4 (by decide);rw [h8] at this;cases this
    refine op_call (f:=33) (args:=#[.pointer (some ⟨v,0,none⟩)]) (w1:=w') (by simp only [execOp,show o.op=Op.call { callee:=Callee.value (Operand.func 33),args:=#[.tmp 22],argTypes:=#[91] } from ho];go_simp;simpa [Act.eval] using u0) h6 (volParams_at (hV.keep (hB.1.block _ hV.lt))) ?_
    rintro e w'' ⟨rfl,hb,hz,hn⟩
    have ha:∀ b,isRoot w'' b→isRoot w' b:=fun b ⟨c,q1,q2⟩=>by
     have:=(Array.getElem?_eq_some_iff.1 q2).1
     by_cases e:b=w'.heap.size
     · subst e;rw [hn] at q2;simp at q2
     · exact ⟨c,q1,(hb.block b (by omega)).symm.trans q2⟩
    refine ⟨_,rfl,⟨hB.1.trans (hb.mono hB.1.size),fun b b' h1 h2 q1 q2=>hB.2.1 b b' h1 h2 (ha b q1) (ha b' q2),fun q b h1 h2=>hB.2.2 (by unfold upd at q;rwa [if_neg (by decide)] at q) b h1 (ha b h2)⟩,rfl,fun j u hj q=>?_⟩
    match j,hj,q with
    | 0,_,q | 1,_,q | 2,_,q | 3,_,q | 4,_,q | 5,_,q | 6,_,q | 7,_,q | 8,_,q | 9,_,q | 10,_,q | 11,_,q | 12,_,q | 13,_,q | 14,_,q | 15,_,q | 16,_,q=>exact q
    | 17,_,⟨b,q1,q2,c,q3,q4⟩=>exact ⟨b,q1,q2,c,q3,(hb.block b (Array.getElem?_eq_some_iff.1 q4).1).trans q4⟩
    | 18,hj,_=>rw [he] at hj;cases hj
    | n+19,_,_=>trivial
   | 5,_=>exact fun o a' w' Dn hg ho h6 hk h8 h9 h7 hB hV=>op_val (run_op_move ho ((hk.slot 0 (by omega)).trans e0) w') h6 ⟨BCm_pure hB _ (by decide),rfl,kq⟩
   | 6,_=>
    intro o a' w' Dn hg ho h6 hk h8 h9 h7 hB hV
    have u0:a'.eval (.tmp 24)=.pointer (some ⟨ar,0,none⟩):=hV 5 (h7 5 (by decide))
    exact op_val (run_op_nil ho u0 w') h6 ⟨BCm_pure hB _ (by decide),rfl,kq⟩
   | 7,_=>
    intro o a' w' Dn hg ho h6 hk h8 h9 h7 hB hV
    have u0:a'.eval (.tmp 25)=.pointer (some ⟨ar,0,none⟩):=hV 6 (h7 6 (by decide))
    exact op_val (v:=.pointer (some ⟨ar,1,none⟩)) (by simp only [execOp,show o.op=Op.fieldAddr 98 (.tmp 25) 1 from ho,u0];go_simp) h6 ⟨BCm_pure hB _ (by decide),rfl,kq⟩
   | 8,_=>
    intro o a' w' Dn hg ho h6 hk h8 h9 h7 hB hV
    have u0:a'.eval (.tmp 26)=.pointer (some ⟨ar,1,none⟩):=hV 7 (h7 7 (by decide))
    exact op_val (v:=.pointer (some ⟨ar,4,none⟩)) (by simp only [execOp,show o.op=Op.fieldAddr 93 (.tmp 26) 1 from ho,u0];go_simp) h6 ⟨BCm_pure hB _ (by decide),rfl,kq⟩
   | 9,_=>
    intro o a' w' Dn hg ho h6 hk h8 h9 h7 hB hV
    have u0:a'.eval (.tmp 27)=.pointer (some ⟨ar,4,none⟩):=hV 8 (h7 8 (by decide))
    have hc:=(hB.1.block ar hf).trans hp
    have c:w'.cell? ⟨ar,4,none⟩=some (.int .u64 t):=by simp [World.cell?,hc,h4]
    exact op_val (v:=.int .u64 t) (by simp only [execOp,show o.op=Op.load 43 (.tmp 27) from ho,u0];go_simp) h6 ⟨BCm_pure hB _ (by decide),rfl,kq⟩
   | 10,_=>
    intro o a' w' Dn hg ho h6 hk h8 h9 h7 hB hV
    have u0:a'.eval (.tmp 28)=.int .u64 t:=hV 9 (h7 9 (by decide))
    exact op_val (v:=.int .u64 ((t+1:Nat):Int)) (by simp only [execOp,show o.op=Op.binOp BinOp.add 43 (.tmp 28) (Operand.const (Value.int IntKind.u64 1)) 43 from ho,u0,show a'.eval (Operand.const (Value.int IntKind.u64 1))=Value.int IntKind.u64 1 from rfl];go_simp) h6 ⟨BCm_pure hB _ (by decide),rfl,kq⟩
   | 11,_=>exact fun o a' w' Dn hg ho h6 hk h8 h9 h7 hB hV=>op_val (run_op_move ho ((hk.slot 2 (by omega)).trans e2) w') h6 ⟨BCm_pure hB _ (by decide),rfl,kq⟩
   | 12,_=>
    intro o a' w' Dn hg ho h6 hk h8 h9 h7 hB hV
    have u0:a'.eval (.tmp 30)=.slice (some ⟨pb,po,none⟩) pn pc:=hV 11 (h7 11 (by decide))
    exact op_val (v:=.pointer (some ⟨pb,po,none⟩)) (by simp only [execOp,show o.op=Op.indexAddr 94 (.tmp 30) (Operand.const (Value.int IntKind.i64 0)) from ho,u0,show a'.eval (Operand.const (Value.int IntKind.i64 0))=Value.int IntKind.i64 0 from rfl];go_simp;intro h;omega) h6 ⟨BCm_pure hB _ (by decide),rfl,kq⟩
   | 13,_=>
    intro o a' w' Dn hg ho h6 hk h8 h9 h7 hB hV
    have u0:a'.eval (.tmp 31)=.pointer (some ⟨pb,po,none⟩):=hV 12 (h7 12 (by decide))
    have c:w'.cell? ⟨pb,po,none⟩=some (.int .i64 f):=(hB.1.cell (p:=⟨pb,po,none⟩) (block_lt_of_cell hx)).trans hx
    exact op_val (v:=.int .i64 f) (by simp only [execOp,show o.op=Op.load 3 (.tmp 31) from ho,u0];go_simp) h6 ⟨BCm_pure hB _ (by decide),rfl,kq⟩
   | 14,_=>exact fun o a' w' Dn hg ho h6 hk h8 h9 h7 hB hV=>op_val (run_op_move ho ((hk.slot 7 (by omega)).trans e7) w') h6 ⟨BCm_pure hB _ (by decide),rfl,kq⟩
   | 15,_=>
    intro o a' w' Dn hg ho h6 hk h8 h9 h7 hB hV
    have u0:a'.eval (.tmp 33)=.slice so m cap:=hV 14 (h7 14 (by decide))
    exact op_val (v:=.int .i64 m) (op_len_bytes ho u0 w') h6 ⟨BCm_pure hB _ (by decide),rfl,kq⟩
   | 16,_=>
    intro o a' w' Dn hg ho h6 hk h8 h9 h7 hB hV
    have u0:a'.eval (.tmp 23)=.agg #[.int .i64 D,.int .i64 L,.int .i64 G]:=hV 4 (h7 4 (by decide))
    have u1:a'.eval (.tmp 29)=.int .u64 ((t+1:Nat):Int):=hV 10 (h7 10 (by decide))
    have u2:a'.eval (.tmp 34)=.int .i64 m:=hV 15 (h7 15 (by decide))
    have u3:a'.eval (.tmp 32)=.int .i64 f:=hV 13 (h7 13 (by decide))
    exact op_val (v:=.agg (rootA D L G (t+1) f m)) (by simp only [execOp,show o.op=Op.build 93 #[(0,.tmp 23),(1,.tmp 29),(2,.tmp 32),(3,.tmp 34)] from ho,List.map_toArray,List.map_cons,List.map_nil,u0,u1,u2,u3];go_simp;rfl) h6 ⟨BCm_pure hB _ (by decide),rfl,kq⟩
   | 17,_=>
    intro o a' w' Dn hg ho h6 hk h8 h9 h7 hB hV
    have he:Dn 18=false:=by
     cases q:Dn 18 with
     | false=>rfl
     | true=>have:=(h9 18 q).2 17 (by decide);rw [h8] at this;cases this
    have ha:∀ b,w.heap.size≤b→isRoot (w'.alloc (.cells (rootA 0 0 0 0 0 0) 93)) b→b=w'.heap.size:=fun b hb ⟨c,q1,q2⟩=>by
     have:=(Array.getElem?_eq_some_iff.1 q2).1
     simp at this
     by_cases e:b=w'.heap.size
     · exact e
     · exact absurd ⟨c,q1,(blk_alloc_lt _ _ _ (by omega)).symm.trans q2⟩ (hB.2.2 h8 b hb)
    refine op_val (v:=.pointer (some ⟨w'.heap.size,0,none⟩)) (w':=w'.alloc (.cells (rootA 0 0 0 0 0 0) 93)) (by simp only [execOp,show o.op=Op.alloc 93 from ho];go_simp;rfl) h6 ⟨⟨hB.1.alloc hB.1.size _,fun b b' h1 h2 q1 q2=>(ha b h1 q1).trans (ha b' h2 q2).symm,fun q=>(by unfold upd at q;rw [if_pos rfl] at q;cases q)⟩,⟨_,rfl,hB.1.size,_,rfl,blk_alloc_new _ _⟩,fun j u hj q=>?_⟩
    match j,hj,q with
    | 0,_,q | 1,_,q | 2,_,q | 3,_,q | 4,_,q | 5,_,q | 6,_,q | 7,_,q | 8,_,q | 9,_,q | 10,_,q | 11,_,q | 12,_,q | 13,_,q | 14,_,q | 15,_,q | 16,_,q=>exact q
    | 17,hj,_=>rw [h8] at hj;cases hj
    | 18,hj,_=>rw [he] at hj;cases hj
    | n+19,_,_=>trivial
   | 18,_=>
    intro o a' w' Dn hg ho h6 hk h8 h9 h7 hB hV
    obtain ⟨b,u0,hb,c,q3,q4⟩:VCm w.heap.size ar v D L G t m pb po pn pc f so cap 17 (a'.eval (.tmp 9)) w':=hV 17 (h7 17 (by decide))
    have u1:a'.eval (.tmp 35)=.agg (rootA D L G (t+1) f m):=hV 16 (h7 16 (by decide))
    have hq:∀ b',isRoot (w'.setRow b (rootA D L G (t+1) f m)) b'→isRoot w' b':=fun b' ⟨c',q1,q2⟩=>by
     by_cases e:b'=b
     · subst e;exact ⟨c,q3,q4⟩
     · exact ⟨c',q1,((grown_setRow' w' b _).block b' (by have:=(Array.getElem?_eq_some_iff.1 q2).1;rwa [size_setRow] at this) (fun q=>e (by cases q;rfl))).symm.trans q2⟩
    have hO:Below w.heap.size w' (w'.setRow b (rootA D L G (t+1) f m)):=⟨rfl,rfl,rfl,by rw [size_setRow];exact Nat.le_refl _,fun k hk=>(grown_setRow' w' b _).block k (by have:=hB.1.size;omega) (fun q=>by cases q;omega)⟩
    refine op_skip (w':=w'.setRow b (rootA D L G (t+1) f m)) (by simp [execOp,show o.op=Op.store 93 (.tmp 9) (.tmp 35) from ho,u0,u1,root_store q4 q3]) ⟨⟨hB.1.trans hO,fun b1 b2 h1 h2 q1 q2=>hB.2.1 b1 b2 h1 h2 (hq b1 q1) (hq b2 q2),fun q b1 h1 h2=>hB.2.2 (by unfold upd at q;rwa [if_neg (by decide)] at q) b1 h1 (hq b1 h2)⟩,⟨b,hb,setRow_heap w' b c _ _ _ q4⟩,fun j u hj q=>?_⟩
    match j,hj,q with
    | 0,_,q | 1,_,q | 2,_,q | 3,_,q | 4,_,q | 5,_,q | 6,_,q | 7,_,q | 8,_,q | 9,_,q | 10,_,q | 11,_,q | 12,_,q | 13,_,q | 14,_,q | 15,_,q | 16,_,q=>exact q
    | 17,_,⟨b1,q1,q2,c1,q5,q6⟩=>
     refine ⟨b1,q1,q2,?_⟩
     have e:b1=b:=hB.2.1 b1 b q2 hb ⟨c1,q5,q6⟩ ⟨c,q3,q4⟩
     subst e
     exact ⟨_,rfl,setRow_heap w' b1 c1 _ _ _ q6⟩
    | 18,hj,_=>rw [h8] at hj;cases hj
    | n+19,_,_=>trivial
   | n+19,hn=>exact absurd hn (by show ¬ n+19 < 19;omega)
 · rintro a' w' hy hh ⟨Dn,hD,hB⟩ hV
   obtain ⟨b,u0,hb,hr⟩:VCm w.heap.size ar v D L G t m pb po pn pc f so cap 17 (a'.eval (.tmp 9)) w':=hV 17 (by decide)
   obtain ⟨b2,k7,k0⟩:VCm w.heap.size ar v D L G t m pb po pn pc f so cap 18 undef w':=hV 18 (by decide)
   have e:b2=b:=hB.2.1 b2 b k7 hb ⟨_,rfl,k0⟩ hr
   subst e
   have e:a'=Act.putFrom (a.put (some 9) (.pointer (some ⟨b2,0,none⟩))) 19 ((List.range 17).map fun i=>a'.eval (.tmp (19+i))):=framed_two hy.size hy.defers (by rw [List.length_map,List.length_range];omega) (by decide) u0 (fun i hi=>by
    rw [List.length_map,List.length_range] at hi
    rw [List.getD_eq_getElem?_getD,List.getElem?_map,List.getElem?_range hi];rfl) (fun s hs k8=>by
    rw [List.length_map,List.length_range] at k8
    refine hh s fun i hi=>?_
    have kb:i < 19:=hi
    rcases Nat.lt_or_ge i 17 with h | h
    · intro q
      have h3:(shAt shCm i).2.1=some (19+i):=by
       have:∀ i,i < 17→(shAt shCm i).2.1=some (19+i):=by decide
       exact this i h
      rw [h3] at q
      have:=Option.some.inj q
      omega
    · rcases Nat.lt_or_ge i 18 with h5 | h5
      · have:i=17:=by omega
        subst this
        intro q
        have:=Option.some.inj q
        omega
      · have:i=18:=by omega
        subst this
        intro q
        cases q)
   rw [e]
   exact hQ w' _ b2 (by rw [List.length_map,List.length_range]) hb k0 hB.1
section
open Go.Shelf Gf
theorem root_loadM {q:Nat} (h:w.heap[q]?=some (.cells (rootA D L G t f n) 93 (0,0))):(Instr.loadAt 93 (.pointer (some ⟨q,0,none⟩))).run Tryz.prog w=.ok (.agg (rootA D L G t f n)) w:=by
 simp only [Instr.loadAt,Instr.sureAddr,Sem.run_bind,Sem.run_pure,Result.andThen_ok,run_loadVar_row w q 93 93 (rootA D L G t f n) (0,0) _ h Tryz.underlying93 rfl (by kernel_rfl)]
noncomputable def RCw:Array Oper:=((Tryz.f78.body.bind (rgf · 6))).getD #[]
def shCw:List (Op×Option Nat×List Nat):=[(Op.move (.tmp 0),some 36,[]),
 (Op.nilCheck (.tmp 36),some 37,[0]),
 (Op.fieldAddr 98 (.tmp 37) 0,some 38,[1]),
 (Op.load 91 (.tmp 38),some 39,[2]),
 (Op.load 93 (.tmp 9),some 40,[]),
 (Op.makeInterface 93 (.tmp 40),some 41,[4]),
 (Op.move (.tmp 0),some 42,[]),
 (Op.nilCheck (.tmp 42),some 43,[6]),
 (Op.fieldAddr 98 (.tmp 43) 0,some 44,[7]),
 (Op.load 91 (.tmp 44),some 45,[8]),
 (Op.call { callee:=Callee.value (Operand.func 63),args:=#[.tmp 45],argTypes:=#[91] },some 46,[9]),
 (Op.call { callee:=Callee.value (Operand.func 69),args:=#[.tmp 39,Operand.const (Value.int IntKind.i64 0),.tmp 41,.tmp 46],argTypes:=#[91,3,164,101] },some 47,[3,5,10,10])]
theorem RCw_shape:RegShape RCw 36 48 shCw:=regShape (by kernel_rfl) (by kernel_rfl)
def vsCw (ar v D L G t f m S:Nat):List Value:=[.pointer (some ⟨ar,0,none⟩),.pointer (some ⟨ar,0,none⟩),.pointer (some ⟨ar,0,none⟩),.pointer (some ⟨v,0,none⟩),.agg (rootA D L G t f m),recV (.root D L G t f m),.pointer (some ⟨ar,0,none⟩),.pointer (some ⟨ar,0,none⟩),.pointer (some ⟨ar,0,none⟩),.pointer (some ⟨v,0,none⟩),.int .u64 S,.int .u64 0]
def arCw (A:Arr) (r:Rec) (D:Nat→Bool):Arr:=if D 11=true then A.putAt (List.range A.n) 0 (fun _=>r.blk) else A
def BCw (w0:World) (p:Nat) (A:Arr) (F:Foot) (r:Rec) (Dn:Nat→Bool) (w:World):Prop:=ArrAt w p (arCw A r Dn) F∧Outside (F.has p A.n) w0 w
theorem BCw_upd {A:Arr} {r:Rec} (h:BCw w0 p A F r Dn w) (i:Nat) (hi:i≠11) (hb:Below w.heap.size w w'):BCw w0 p A F r (upd Dn i) w':=by
 refine ⟨?_,h.2.trans (Outside.of_all hb _)⟩
 have e:arCw A r (upd Dn i)=arCw A r Dn:=by unfold arCw upd;rw [if_neg (fun e:11=i=>hi e.symm)]
 rw [e];exact h.1.below hb (Nat.le_refl _)
theorem commitWrite_region {v:Nat} {A:Arr} (h7:RCw=ops) (hV:Vol w v p D L G ps ho A F) (hF:Free F p A.n v) (h8:¬ F.has p A.n ar) (hc:w.heap[ar]?=some (.cells cs 98 (0,0))) (h0:cs[0]?=some (.pointer (some ⟨v,0,none⟩)))
 (hf:A.fit) (hn:A.n=D+L+G) (hD:D≤12) (hm:L≤4) (hG:G≤4) (h9:D+L+G≤16) (hb:0 < A.nb) (hw:A.wait < 0) (hl:∀ i,A.lost i=false) {D' L' G' t f m q:Nat} (he:(Rec.root D' L' G' t f m).ok) (hq:w.heap[q]?=some (.cells (rootA D' L' G' t f m) 93 (0,0))) (hp:¬ F.has p A.n q)
 (k8:a.tmps.size=60) (e0:a.eval (.tmp 0)=.pointer (some ⟨ar,0,none⟩)) (e9:a.eval (.tmp 9)=.pointer (some ⟨q,0,none⟩))
 (hQ:∀ (w':World) (vs:List Value),vs.length=12→ArrAt w' p (A.putAt (List.range A.n) 0 (fun _=>(Rec.root D' L' G' t f m).blk)) F→Outside (F.has p A.n) w w'→Q .normal (Act.putFrom a 36 vs) w'):(Code.region 6 ops true).wp Tryz.prog Q a w:=by
 subst h7
 obtain ⟨S,hS⟩:∃ S,2^(D+L+G) - 1=S:=⟨_,rfl⟩
 have hh:mems S=List.range A.n:=by rw [← hS,hn];exact mems_all h9
 have hr:S < 65536:=by
  have:2^(D+L+G)≤2^16:=Nat.pow_le_pow_right (by decide) h9
  omega
 have ha:ar < w.heap.size:=(Array.getElem?_eq_some_iff.1 hc).1
 have hs:q < w.heap.size:=(Array.getElem?_eq_some_iff.1 hq).1
 have h6:∀ w',Outside (F.has p A.n) w w'→w'.cell? ⟨ar,0,none⟩=some (.pointer (some ⟨v,0,none⟩)):=fun w' hO=>by
  have:=(hO.block ar ha h8).trans hc
  simp [World.cell?,this,h0]
 refine region_facts (by kernel_rfl) RCw_shape a w (by omega) (fun i u _=>u=(vsCw ar v D' L' G' t f m S).getD i undef) (BCw w p A F (.root D' L' G' t f m)) ⟨hV.arr.keep fun _ _=>rfl,Outside.drew w⟩ ?_ ?_
 · intro i hi
   match i,hi with
   | 0,_=>exact fun o a' w' Dn hg ho h1 hk h4 h5 h2 hB h3=>op_val (run_op_move ho ((hk.slot 0 (by omega)).trans e0) w') h1 ⟨BCw_upd hB _ (by decide) (Below.refl _ _),rfl,kq⟩
   | 1,_=>
    intro o a' w' Dn hg ho h1 hk h4 h5 h2 hB h3
    have u0:a'.eval (.tmp 36)=.pointer (some ⟨ar,0,none⟩):=h3 0 (h2 0 (by decide))
    exact op_val (run_op_nil ho u0 w') h1 ⟨BCw_upd hB _ (by decide) (Below.refl _ _),rfl,kq⟩
   | 2,_=>
    intro o a' w' Dn hg ho h1 hk h4 h5 h2 hB h3
    have u0:a'.eval (.tmp 37)=.pointer (some ⟨ar,0,none⟩):=h3 1 (h2 1 (by decide))
    exact op_val (v:=.pointer (some ⟨ar,0,none⟩)) (by simp only [execOp,show o.op=Op.fieldAddr 98 (.tmp 37) 0 from ho,u0];go_simp) h1 ⟨BCw_upd hB _ (by decide) (Below.refl _ _),rfl,kq⟩
   | 3,_=>
    intro o a' w' Dn hg ho h1 hk h4 h5 h2 hB h3
    have u0:a'.eval (.tmp 38)=.pointer (some ⟨ar,0,none⟩):=h3 2 (h2 2 (by decide))
    have c:=h6 w' hB.2
    exact op_val (v:=.pointer (some ⟨v,0,none⟩)) (by simp only [execOp,show o.op=Op.load 91 (.tmp 38) from ho,u0];go_simp) h1 ⟨BCw_upd hB _ (by decide) (Below.refl _ _),rfl,kq⟩
   | 4,_=>
    intro o a' w' Dn hg ho h1 hk h4 h5 h2 hB h3
    have u0:a'.eval (.tmp 9)=.pointer (some ⟨q,0,none⟩):=(hk.slot 9 (by omega)).trans e9
    have hx:=root_loadM ((hB.2.block q hs hp).trans hq)
    exact op_val (v:=.agg (rootA D' L' G' t f m)) (by simp [execOp,show o.op=Op.load 93 (.tmp 9) from ho,u0,hx]) h1 ⟨BCw_upd hB _ (by decide) (Below.refl _ _),rfl,kq⟩
   | 5,_=>
    intro o a' w' Dn hg ho h1 hk h4 h5 h2 hB h3
    have u0:a'.eval (.tmp 40)=.agg (rootA D' L' G' t f m):=h3 4 (h2 4 (by decide))
    exact op_val (v:=recV (.root D' L' G' t f m)) (by simp only [execOp,show o.op=Op.makeInterface 93 (.tmp 40) from ho,u0,recV];go_simp) h1 ⟨BCw_upd hB _ (by decide) (Below.refl _ _),rfl,kq⟩
   | 6,_=>exact fun o a' w' Dn hg ho h1 hk h4 h5 h2 hB h3=>op_val (run_op_move ho ((hk.slot 0 (by omega)).trans e0) w') h1 ⟨BCw_upd hB _ (by decide) (Below.refl _ _),rfl,kq⟩
   | 7,_=>
    intro o a' w' Dn hg ho h1 hk h4 h5 h2 hB h3
    have u0:a'.eval (.tmp 42)=.pointer (some ⟨ar,0,none⟩):=h3 6 (h2 6 (by decide))
    exact op_val (run_op_nil ho u0 w') h1 ⟨BCw_upd hB _ (by decide) (Below.refl _ _),rfl,kq⟩
   | 8,_=>
    intro o a' w' Dn hg ho h1 hk h4 h5 h2 hB h3
    have u0:a'.eval (.tmp 43)=.pointer (some ⟨ar,0,none⟩):=h3 7 (h2 7 (by decide))
    exact op_val (v:=.pointer (some ⟨ar,0,none⟩)) (by simp only [execOp,show o.op=Op.fieldAddr 98 (.tmp 43) 0 from ho,u0];go_simp) h1 ⟨BCw_upd hB _ (by decide) (Below.refl _ _),rfl,kq⟩
   | 9,_=>
    intro o a' w' Dn hg ho h1 hk h4 h5 h2 hB h3
    have u0:a'.eval (.tmp 44)=.pointer (some ⟨ar,0,none⟩):=h3 8 (h2 8 (by decide))
    have c:=h6 w' hB.2
    exact op_val (v:=.pointer (some ⟨v,0,none⟩)) (by simp only [execOp,show o.op=Op.load 91 (.tmp 44) from ho,u0];go_simp) h1 ⟨BCw_upd hB _ (by decide) (Below.refl _ _),rfl,kq⟩
   | 10,_=>
    intro o a' w' Dn hg ho h1 hk h4 h5 h2 hB h3
    have u0:a'.eval (.tmp 45)=.pointer (some ⟨v,0,none⟩):=h3 9 (h2 9 (by decide))
    refine op_call (f:=63) (args:=#[.pointer (some ⟨v,0,none⟩)]) (w1:=w') (by simp only [execOp,show o.op=Op.call { callee:=Callee.value (Operand.func 63),args:=#[.tmp 45],argTypes:=#[91] } from ho];go_simp;simpa [Act.eval] using u0) h1 (volAll_any (hV.vol.keep (hB.2.block _ hV.vol.lt hF.v)) hD hm hG h9) ?_
    rintro e w'' ⟨rfl,hy⟩
    rw [hS]
    exact ⟨_,rfl,BCw_upd hB 10 (by decide) hy,rfl,kq⟩
   | 11,_=>
    intro o a' w' Dn k9 ho h1 hk h4 h5 h2 hB h3
    have u0:a'.eval (.tmp 39)=.pointer (some ⟨v,0,none⟩):=h3 3 (h2 3 (by decide))
    have u1:a'.eval (.tmp 41)=recV (.root D' L' G' t f m):=h3 5 (h2 5 (by decide))
    have u2:a'.eval (.tmp 46)=.int .u64 S:=h3 10 (h2 10 (by decide))
    have hA:ArrAt w' p A F:=by have:=hB.1;unfold arCw at this;rw [if_neg (by rw [h4];decide)] at this;exact this
    have hz:=hV.turn hF hB.2 hA
    have hj:=writeCopies_ok hz hF hf 0 S hb hr (fun i hi=>by rw [hh] at hi;simpa using hi) hw (fun i _=>hl i) (.root D' L' G' t f m) he (makes_root he)
    rw [hh] at hj
    refine op_call (f:=69) (args:=#[.pointer (some ⟨v,0,none⟩),.int .i64 (0:Nat),recV (.root D' L' G' t f m),.int .u64 S]) (w1:=w') (by simp only [execOp,show o.op=Op.call { callee:=Callee.value (Operand.func 69),args:=#[.tmp 39,Operand.const (Value.int IntKind.i64 0),.tmp 41,.tmp 46],argTypes:=#[91,3,164,101] } from ho];go_simp;exact ⟨by simpa [Act.eval] using u0,by simpa [Act.eval] using u1,by simpa [Act.eval] using u2⟩) h1 hj ?_
    rintro e w'' ⟨rfl,k0,k5⟩
    refine ⟨_,rfl,⟨?_,hB.2.trans k5⟩,rfl,kq⟩
    have e:arCw A (.root D' L' G' t f m) (upd Dn 11)=A.putAt (List.range A.n) 0 (fun _=>(Rec.root D' L' G' t f m).blk):=by unfold arCw upd;rw [if_pos (by rw [if_pos rfl])]
    rw [e];exact k0
   | n+12,hn=>exact absurd hn (by show ¬ n+12 < 12;omega)
 · rintro a' w' k6 ⟨Dn,k7,hB⟩ h3
   have e:arCw A (.root D' L' G' t f m) Dn=A.putAt (List.range A.n) 0 (fun _=>(Rec.root D' L' G' t f m).blk):=by unfold arCw;rw [if_pos (k7 11 (by decide))]
   have hA:=hB.1
   rw [e] at hA
   have e:a'=Act.putFrom a 36 ((List.range 12).map fun i=>a'.eval (.tmp (36+i))):=k6.out _ (by rw [List.length_map,List.length_range]) (by omega) (fun i hi=>by
    rw [List.length_map,List.length_range] at hi
    rw [List.getD_eq_getElem?_getD,List.getElem?_map,List.getElem?_range hi];rfl)
   rw [e]
   exact hQ w' _ (by rw [List.length_map,List.length_range]) hA hB.2
end
end Go.Proofs.YthcgahldacpolaaGreatDoor
