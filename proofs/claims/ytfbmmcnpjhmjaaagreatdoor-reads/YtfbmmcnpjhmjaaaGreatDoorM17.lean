import Derived.WalkMore
import Derived.Test.YtfbmmcnpjhmjaaaGreatDoorM16
set_option maxRecDepth 100000
set_option maxHeartbeats 8000000
open Go.IntKind renaming i64 -> Z9
open Go.Value renaming int -> Z8, pointer -> Z7, slice -> Z6
open Go.Ending renaming returned -> Z5
open Go.Operand renaming tmp -> Z4
open Option renaming none -> Z3, some -> Z2
open Go renaming World -> Z1, Value -> Z0
open List renaming mem_map -> Tm, range -> Tn, mem_append -> To, ext_getElem -> Tr, map_append -> Ts
open Option renaming map_eq_some_iff -> Tp
open Prod.mk renaming injEq -> Tq
open Go.Proofs.Tryz renaming prog -> ZZ
namespace Go.Proofs.YtfbmmcnpjhmjaaaGreatDoor
open Go.RowKit Go.Deep
variable {a:Act} {ops:Array Oper} {T:List (Nat×Nat×List Nat)} {base g N:Nat} {o:Oper} {w:Z1}
section
open Gf
theorem eJ (a:Act) (i:Nat) (v:Z0) (h:i<a.tmps.size):(a.put (Z2 i) v).eval (.tmp i)=v:=by simp [Act.put,Act.eval,h]
theorem az (a:Act) (i j:Nat) (v:Z0) (h:i≠j):(a.put (Z2 i) v).eval (.tmp j)=a.eval (.tmp j):=by
 simp [Act.put,Act.eval,Array.getD_eq_getD_getElem?,h]
theorem fv (a:Act) (d:Option Nat) (v:Z0):(a.put d v).tmps.size=a.tmps.size:=by
 cases d<;>simp [Act.put]
theorem IM (a:Act) (i j:Nat) (v u:Z0) (h:i≠j):(a.put (Z2 i) v).put (Z2 j) u=(a.put (Z2 j) u).put (Z2 i) v:=by
 simp only [Act.put];rw [Array.setIfInBounds_comm _ _ h]
theorem dq (b:o.guard=Z3):Region.wanted o (yielded ops a.tmps)=true:=by simp [Region.wanted,b]
theorem iV {P:Program} {x:Operand} {v:Z0} (b:o.guard=Z3) (ho:o.op=.move x) (c:a.eval x=v):Yields P ops o v a:=
 .inl ⟨dq b,λw=>by simp [execOp,ho,c]⟩
def rg:Code->Nat->Option (Array Oper)
 | .region i ops _,n=>if i=n then Z2 ops else Z3
 | .seq a b,n=>(rg a n).orElse λ_=>rg b n
 | .cond _ a b,n=>(rg a n).orElse λ_=>rg b n
 | .block _ a,n=>rg a n
 | .loop a,n=>rg a n
 | .scope a,n=>rg a n
 | _,_=>Z3
noncomputable def Nt:Array Oper:=((Tryz.f42.body.bind (rg · 12))).getD #[]
def Pf (l:List Nat):Array Bool:=l.foldl (λa i=>a.setIfInBounds i true) (Array.replicate 12 false)
theorem gA:(Tn 12).map (λi=>(Nt[i]?).map λo=>(o.op,o.dst,o.guard))=[
 Z2 (.move (Z4 4),Z2 28,Z3),Z2 (.move (Z4 6),Z2 29,Z3),Z2 (.move (Z4 6),Z2 30,Z3),Z2 (.indexAddr 136 (Z4 3) (Z4 30),Z2 31,Z3),
 Z2 (.load 134 (Z4 31),Z2 32,Z3),Z2 (.move (Z4 4),Z2 33,Z3),Z2 (.indexAddr 136 (Z4 3) (Z4 33),Z2 34,Z3),Z2 (.load 134 (Z4 34),Z2 35,Z3),
 Z2 (.indexAddr 136 (Z4 3) (Z4 28),Z2 36,Z3),Z2 (.store 134 (Z4 36) (Z4 32),Z3,Z3),Z2 (.indexAddr 136 (Z4 3) (Z4 29),Z2 37,Z3),Z2 (.store 134 (Z4 37) (Z4 35),Z3,Z3)]:=by kernel_rfl
theorem gB {i:Nat} {x:Op} {d:Option Nat} (f:i<12) (h:((Tn 12).map (λi=>(Nt[i]?).map λo=>(o.op,o.dst,o.guard)))[i]?=Z2 (Z2 (x,d,Z3))):∃ o,Nt[i]?=Z2 o/\o.op=x/\o.dst=d/\o.guard=Z3:=by
 simp only [List.getElem?_map,List.getElem?_range f,Option.map_some,Option.some.injEq,Tp,Tq] at h;obtain ⟨o,a,b,c,e⟩:=h;exact ⟨o,a,b,c,e⟩
theorem nL (b p:Nat) (f:p<64) {o:Oper} {a:Act} {x y:Operand} (ho:o.op=.indexAddr 136 x y) (c:a.eval x=Z7 (Z2 ⟨b,0,Z3⟩)) (d:a.eval y=Z8 Z9 (p:Nat)) (w:Z1) :
 (execOp a.eval o).run ZZ w=.ok (.value (Z7 (Z2 ⟨b,p*64,Z3⟩))) w:=by
 have e:(p:Int)<64:=by omega
 simp only [execOp,ho,c,d];go_simp
theorem Tryz.sizeRow:(ZZ.info? 134).map (λi=>i.size)=Z2 64:=by kernel_rfl
def IN (a:Act) (gb p r:Nat) (cp cr:List Z0):Act:=
 ((((((((((a.put (Z2 28) (Z8 Z9 (r:Nat))).put (Z2 29) (Z8 Z9 (p:Nat))).put (Z2 30) (Z8 Z9 (p:Nat))).put (Z2 33) (Z8 Z9 (r:Nat))).put (Z2 31) (Z7 (Z2 ⟨gb,p*64,Z3⟩))).put (Z2 34) (Z7 (Z2 ⟨gb,r*64,Z3⟩))).put (Z2 32) (.agg cp.toArray)).put (Z2 35) (.agg cr.toArray)).put (Z2 36) (Z7 (Z2 ⟨gb,r*64,Z3⟩))).put Z3 undef).put (Z2 37) (Z7 (Z2 ⟨gb,p*64,Z3⟩)) |>.put Z3 undef
theorem IP {Q:Exit->Act->Z1->Prop} (e p r:Nat) (cp f:List Z0) (hR:Nt=ops) (j:∀ c n v a w,Q (.panic c) (a.put (Z2 n) v) w->Q (.panic c) a w)
 (m:a.tmps.size=47) (hp:p<64) (hr:r<64) (e3:a.eval (Z4 3)=Z7 (Z2 ⟨e,0,Z3⟩)) (W:a.eval (Z4 4)=Z8 Z9 (r:Nat)) (X:a.eval (Z4 6)=Z8 Z9 (p:Nat))
 (lp:cp.length=64) (lr:f.length=64) (op:cp.toArray.all (λv=>v.oneCell')=true) (or:f.toArray.all (λv=>v.oneCell')=true)
 (gp:w.drew.rangeAt e (p*64) cp) (gr:w.drew.rangeAt e (r*64) f) (tr:w.drew.there e (r*64) 64) (tp:w.drew.there e (p*64) 64)
 (h:Q .normal (IN a e p r cp f) ((w.drew.setCells e (r*64) cp).setCells e (p*64) f)):(Code.region 12 ops true).wp ZZ Q a w:=by
 subst hR;obtain ⟨o0,g0,x0,N,k0⟩:=gB (i:=0) (by decide) (by rw [gA];rfl);obtain ⟨o1,g1,x1,d1,k1⟩:=gB (i:=1) (by decide) (by rw [gA];rfl);obtain ⟨o2,g2,x2,O,k2⟩:=gB (i:=2) (by decide) (by rw [gA];rfl);obtain ⟨o3,g3,x3,P,k3⟩:=gB (i:=3) (by decide) (by rw [gA];rfl);obtain ⟨o4,Y,x4,R,k4⟩:=gB (i:=4) (by decide) (by rw [gA];rfl);obtain ⟨o5,g5,x5,S,k5⟩:=gB (i:=5) (by decide) (by rw [gA];rfl);obtain ⟨o6,g6,x6,T,k6⟩:=gB (i:=6) (by decide) (by rw [gA];rfl);obtain ⟨o7,Z,x7,U,k7⟩:=gB (i:=7) (by decide) (by rw [gA];rfl);obtain ⟨o8,g8,x8,V,k8⟩:=gB (i:=8) (by decide) (by rw [gA];rfl);obtain ⟨o9,g9,x9,d9,k9⟩:=gB (i:=9) (by decide) (by rw [gA];rfl);obtain ⟨h3,y,I,d10,A⟩:=gB (i:=10) (by decide) (by rw [gA];rfl);obtain ⟨h4,z,J,d11,B⟩:=gB (i:=11) (by decide) (by rw [gA];rfl);have g:Region.noSelect Nt=true:=by kernel_rfl
 have h1:Nt.size=12:=by kernel_rfl
 refine wp_region_any (by kernel_rfl) ?_;rw [h1];change wpAny _ _ _ _ _ (Pf []) _ (World.drew _);refine wpAny_take g0 g (by kernel_rfl) (by kernel_rfl) (λc a w h=>j c _ _ a w (by rw [N] at h;exact h)) (iV k0 x0 W) ?_;rw [N];refine wpAny_take g1 g (by kernel_rfl) (by kernel_rfl) (λc a w h=>j c _ _ a w (by rw [d1] at h;exact h)) (iV (v:=Z8 Z9 (p:Nat)) k1 x1 (by rw [az _ _ _ _ (by decide)];exact X)) ?_;rw [d1];refine wpAny_take g2 g (by kernel_rfl) (by kernel_rfl) (λc a w h=>j c _ _ a w (by rw [O] at h;exact h)) (iV (v:=Z8 Z9 (p:Nat)) k2 x2 (by rw [az _ _ _ _ (by decide),az _ _ _ _ (by decide)];exact X)) ?_;rw [O];refine wpAny_take g5 g (by kernel_rfl) (by kernel_rfl) (λc a w h=>j c _ _ a w (by rw [S] at h;exact h)) (iV (v:=Z8 Z9 (r:Nat)) k5 x5 (by rw [az _ _ _ _ (by decide),az _ _ _ _ (by decide),az _ _ _ _ (by decide)];exact W)) ?_;rw [S];generalize hb:(((a.put (Z2 28) (Z8 Z9 (r:Nat))).put (Z2 29) (Z8 Z9 (p:Nat))).put (Z2 30) (Z8 Z9 (p:Nat))).put (Z2 33) (Z8 Z9 (r:Nat))=b;have G:b.tmps.size=47:=by rw [<- hb];simp only [fv,m]
 have b3:b.eval (Z4 3)=Z7 (Z2 ⟨e,0,Z3⟩):=by rw [<- hb];simp only [az _ _ _ _ (show (33:Nat)≠3 by decide),az _ _ _ _ (show (30:Nat)≠3 by decide),az _ _ _ _ (show (29:Nat)≠3 by decide),az _ _ _ _ (show (28:Nat)≠3 by decide),e3]
 have s:b.eval (Z4 30)=Z8 Z9 (p:Nat):=by rw [<- hb,az _ _ _ _ (by decide),eJ _ _ _ (by simp only [fv,m];decide)]
 have t:b.eval (Z4 33)=Z8 Z9 (r:Nat):=by rw [<- hb,eJ _ _ _ (by simp only [fv,m];decide)]
 have o:b.eval (Z4 28)=Z8 Z9 (r:Nat):=by rw [<- hb,az _ _ _ _ (by decide),az _ _ _ _ (by decide),az _ _ _ _ (by decide),eJ _ _ _ (by simp only [m];decide)]
 have q:b.eval (Z4 29)=Z8 Z9 (p:Nat):=by rw [<- hb,az _ _ _ _ (by decide),az _ _ _ _ (by decide),eJ _ _ _ (by simp only [fv,m];decide)]
 unfold IN at h;rw [hb] at h;clear hb;refine wpAny_take g3 g (by kernel_rfl) (by kernel_rfl) (λc a w h=>j c _ _ a w (by rw [P] at h;exact h)) (.inl ⟨dq k3,nL e p hp x3 b3 s⟩) ?_;rw [P];refine wpAny_take g6 g (by kernel_rfl) (by kernel_rfl) (λc a w h=>j c _ _ a w (by rw [T] at h;exact h)) (.inl ⟨dq k6,nL e r hr x6 (by rw [az _ _ _ _ (by decide)];exact b3) (by rw [az _ _ _ _ (by decide)];exact t)⟩) ?_;rw [T];generalize hc:(b.put (Z2 31) (Z7 (Z2 ⟨e,p*64,Z3⟩))).put (Z2 34) (Z7 (Z2 ⟨e,r*64,Z3⟩))=c;have H:c.tmps.size=47:=by rw [<- hc];simp only [fv,G]
 have c3:c.eval (Z4 3)=Z7 (Z2 ⟨e,0,Z3⟩):=by rw [<- hc,az _ _ _ _ (by decide),az _ _ _ _ (by decide),b3]
 have u:c.eval (Z4 28)=Z8 Z9 (r:Nat):=by rw [<- hc,az _ _ _ _ (by decide),az _ _ _ _ (by decide),o]
 have x:c.eval (Z4 29)=Z8 Z9 (p:Nat):=by rw [<- hc,az _ _ _ _ (by decide),az _ _ _ _ (by decide),q]
 have k:c.eval (Z4 31)=Z7 (Z2 ⟨e,p*64,Z3⟩):=by rw [<- hc,az _ _ _ _ (by decide),eJ _ _ _ (by rw [G];decide)]
 have l:c.eval (Z4 34)=Z7 (Z2 ⟨e,r*64,Z3⟩):=by rw [<- hc,eJ _ _ _ (by simp only [fv,G];decide)]
 rw [hc] at h;clear hc;have L:(ZZ.info? 134).map (λi=>i.size)=Z2 cp.length:=by rw [lp];exact Tryz.sizeRow
 have M:(ZZ.info? 134).map (λi=>i.size)=Z2 f.length:=by rw [lr];exact Tryz.sizeRow
 have fin:wpAny ZZ .any Nt Q 4 (Pf [0,1,2,5,3,6,4,7]) ((c.put (Z2 32) (.agg cp.toArray)).put (Z2 35) (.agg f.toArray)) w.drew:=by
  generalize hd:(c.put (Z2 32) (.agg cp.toArray)).put (Z2 35) (.agg f.toArray)=d;have sd:d.tmps.size=47:=by rw [<- hd];simp only [fv,H]
  have q3:d.eval (Z4 3)=Z7 (Z2 ⟨e,0,Z3⟩):=by rw [<- hd,az _ _ _ _ (by decide),az _ _ _ _ (by decide),c3]
  have C:d.eval (Z4 28)=Z8 Z9 (r:Nat):=by rw [<- hd,az _ _ _ _ (by decide),az _ _ _ _ (by decide),u]
  have D:d.eval (Z4 29)=Z8 Z9 (p:Nat):=by rw [<- hd,az _ _ _ _ (by decide),az _ _ _ _ (by decide),x]
  have E:d.eval (Z4 32)=.agg cp.toArray:=by rw [<- hd,az _ _ _ _ (by decide),eJ _ _ _ (by rw [H];decide)]
  have F:d.eval (Z4 35)=.agg f.toArray:=by rw [<- hd,eJ _ _ _ (by simp only [fv,H];decide)]
  rw [hd] at h;clear hd;refine wpAny_take g8 g (by kernel_rfl) (by kernel_rfl) (λc a w h=>j c _ _ a w (by rw [V] at h;exact h)) (.inl ⟨dq k8,nL e r hr x8 q3 C⟩) ?_;rw [V];refine wpAny_ready (rs:=[9]) (by kernel_rfl) (by simp) ?_;refine AllReady.cons g9 (λK hK=>?_) AllReady.nil;rw [if_pos (dq k9)];refine wp_store_mid 134 (Z4 36) (Z4 32) x9 e (r*64) cp.toArray (by rw [eJ _ _ _ (by rw [sd];decide)]) (by rw [az _ _ _ _ (by decide),E]) (by simpa [lp] using tr) (by simpa using L) op ?_;refine hK _ _ ?_;rw [d9];refine wpAny_take y g (by kernel_rfl) (by kernel_rfl) (λc a w h=>j c _ _ a w (by rw [d10] at h;exact h)) (.inl ⟨dq A,nL e p hp I (by show (d.put (Z2 36) _).eval _=_;rw [az _ _ _ _ (by decide)];exact q3) (by show (d.put (Z2 36) _).eval _=_;rw [az _ _ _ _ (by decide)];exact D)⟩) ?_;rw [d10];refine wpAny_ready (rs:=[11]) (by kernel_rfl) (by simp) ?_;refine AllReady.cons z (λK hK=>?_) AllReady.nil;rw [if_pos (dq B)];refine wp_store_mid 134 (Z4 37) (Z4 35) J e (p*64) f.toArray (by rw [eJ _ _ _ (by show 37<(d.put (Z2 36) _).tmps.size;rw [fv,sd];decide)]) (by rw [az _ _ _ _ (by decide)];show (d.put (Z2 36) _).eval _=_;rw [az _ _ _ _ (by decide),F]) (by simpa [lr] using World.there_setCells tp e (r*64) cp) (by simpa using M) or ?_;refine hK _ _ ?_;rw [d11];exact wpAny_done (by kernel_rfl) h _
 refine wpAny_ready (rs:=[4,7]) (by kernel_rfl) (by simp) ?_;refine AllReady.cons Y (λK hK=>?_) (AllReady.cons Z (λK hK=>?_) AllReady.nil)
 . rw [if_pos (dq k4)];refine wp_load_mid 134 (Z4 31) x4 e (p*64) k cp _ gp Tryz.underlying134 rfl L ?_;refine hK _ _ ?_;rw [R];refine wpAny_ready (rs:=[7]) (by kernel_rfl) (by simp) ?_;refine AllReady.cons Z (λK hK=>?_) AllReady.nil;rw [if_pos (dq k7)];refine wp_load_mid 134 (Z4 34) x7 e (r*64) (by rw [az _ _ _ _ (by decide)];exact l) f _ gr Tryz.underlying134 rfl M ?_;refine hK _ _ ?_;rw [U];exact fin
 . rw [if_pos (dq k7)];refine wp_load_mid 134 (Z4 34) x7 e (r*64) l f _ gr Tryz.underlying134 rfl M ?_;refine hK _ _ ?_;rw [U];refine wpAny_ready (rs:=[4]) (by kernel_rfl) (by simp) ?_;refine AllReady.cons Y (λK hK=>?_) AllReady.nil;rw [if_pos (dq k4)];refine wp_load_mid 134 (Z4 31) x4 e (p*64) (by rw [az _ _ _ _ (by decide)];exact k) cp _ gp Tryz.underlying134 rfl L ?_;refine hK _ _ ?_;rw [R,IM _ _ _ _ _ (by decide)];exact fin
end
theorem Tryz.infoErrno:(ZZ.info? 66).map (λi=>i.comparable)=Z2 true:=by kernel_rfl
theorem vF (n m:Int) (w:Z1):(binOp .eql 63 (.iface 66 (Z8 Z9 n)) (.iface 66 (Z8 Z9 m))).run ZZ w=.ok (.bool (n==m)) w:=by
 obtain ⟨i,f,c⟩:=Tp.1 Tryz.infoErrno;have a:∀ d,(Op.equalIn (d+1) 66 (Z8 Z9 n) (Z8 Z9 m)).run ZZ w=.ok (n==m) w:=λd=>run_equalIn_int (w:=w) d 66 .i64 .i64 n m Tryz.underlying66;have b:∀ d,(Op.equalIn (d+1+1) 63 (.iface 66 (Z8 Z9 n)) (.iface 66 (Z8 Z9 m))).run ZZ w=.ok (n==m) w:=λd=>by
  rw [Op.equalIn];simp [Sem.run_bind,run_underlying Tryz.underlying63,Result.andThen_ok,typeInfo,f,c,a d]
 have e:=b 9998;simp only [binOp];simp [Op.equal,Op.maxDepth,e]
theorem FC (n:Int) (a:n≠13) (w:Z1):Calls ZZ 107 #[.iface 66 (Z8 Z9 n),.iface 66 (Z8 Z9 13),.bool true] w λe w'=>e=Z5 (.bool false)/\w'=w:=by
 have f:∀ w,(binOp .eql 63 (.iface 66 (Z8 Z9 n)) (.iface 66 (Z8 Z9 13))).run ZZ w=.ok (.bool false) w:=λw=>by rw [vF];simp [a]
 have b:∀ w:Z1,(Instr.typeAssert (.iface 66 (Z8 Z9 n)) 63 239 true).run ZZ w=.ok (.tuple #[.nilIface,.bool false]) w:=λw=>run_typeAssert_lacksB Tryz.underlying239 (by kernel_rfl) (by kernel_rfl) _ _ w;have c:∀ w:Z1,(Instr.typeAssert (.iface 66 (Z8 Z9 n)) 63 156 true).run ZZ w=.ok (.tuple #[.nilIface,.bool false]) w:=λw=>run_typeAssert_lacksB Tryz.underlying156 (by kernel_rfl) (by kernel_rfl) _ _ w;have d:∀ w:Z1,(Instr.typeAssert (.iface 66 (Z8 Z9 n)) 63 157 true).run ZZ w=.ok (.tuple #[.nilIface,.bool false]) w:=λw=>run_typeAssert_lacksB Tryz.underlying157 (by kernel_rfl) (by kernel_rfl) _ _ w;go_enter Tryz.func107,Tryz.ntmps107;go_wp2;refine wp_loop_rounds 1 ?_;rw [rounds_succ];go_wp2;go_ret;exact ⟨rfl,rfl⟩
theorem Ac (n:Int) (a:n≠13) (w:Z1):Calls ZZ 72 #[.iface 66 (Z8 Z9 n),.iface 66 (Z8 Z9 13)] w λe w'=>e=Z5 (.bool false)/\w'=w:=by
 have d:=Tryz.typeOfE (Z8 Z9 13);have b := @run_callFunc_extern ZZ 78 _ Extern.ReflectliteType.typeOf Tryz.func78 (by kernel_rfl) (by kernel_rfl) (by kernel_rfl) (by kernel_rfl);have f:∀ (h:Z0) (w:Z1),(Go.method 461 148 (.agg #[h]) "Comparable").run ZZ w=.ok (241,.agg #[h]) w:=λh w=>by kernel_rfl
 have c:∀ w:Z1,(callFunc 241 #[.agg #[Z7 (Z2 ⟨3,66,Z3⟩)]]).run ZZ w=.ok (.value (.bool true)) w:=λw=>by kernel_rfl
 go_enter Tryz.func72,Tryz.ntmps72;go_wp2_with fail;refine (FC n a w).mono ?_;rintro e w' ⟨rfl,rfl⟩;go_wp2;go_ret;exact ⟨rfl,rfl⟩
section
open Gf
theorem uH (h i:Option Addr) (cap a c:Nat) (w:Z1) (o:c<256) :
 Calls ZZ 91 #[.slice h 0 cap,.slice i 0 a,Z8 .u8 c] w λe w'=>e=Z5 (.tuple #[])/\Below w.heap.size w w':=by
 by_cases d:c=0
 . subst d;go_enter Tryz.func91,Tryz.ntmps91;go_wp2;exact bodyPost_ret (v:=.tuple #[]) (by simp [results,Tryz.results91]) rfl ⟨rfl,Below.refl _ _⟩
 . have q:((c:Int)==0)=false:=(by rw [beq_eq_false_iff_ne];omega);clear d;go_enter Tryz.func91,Tryz.ntmps91;go_wp2_with fail;refine (ln c o _).mono ?_;rintro e w1 ⟨cs,rfl,n,f,b⟩;have m:=b.size;go_wp2_with (refine mZ _ rfl (Z4 6) (Z4 11) rfl w1.heap.size c cs _ rfl rfl (heap_alloc_last w1 _) rfl n f ?_;intro w2 j g);have l:Below w.heap.size w w2:=by
    refine (b.trans ((Below.refl _ _).alloc m _)).grown g (by rw [nblk_alloc];omega) (λk p=>by simp at p;omega)
   clear g j f b;refine wp_loop_rounds 1 ?_;rw [rounds_succ];go_wp2;go_end0
   exact ⟨rfl,l⟩
theorem xW (b d:Option Addr) (n m cap a c:Nat) (w:Z1) (h:n=0) (g:m=0) (f:c<256) :
 Calls ZZ 91 #[.slice b n cap,.slice d m a,Z8 .u8 c] w λe w'=>e=Z5 (.tuple #[])/\Below w.heap.size w w':=by
 subst h g;exact uH b d cap a c w f
def LZ (row:List Nat) (D:List (List Nat)):Nat->Nat->Nat
 | 0,_=>0
 | t+1,k=>LZ row D t k^^^gm (row.getD t 0) ((D.getD t []).getD k 0)
def cL (row:List Nat) (D:List (List Nat)) (n t:Nat):List Nat:=(Tn n).map (LZ row D t)
theorem fR (row:List Nat) (D:List (List Nat)) (n t:Nat):(cL row D n t).length=n:=by simp [cL]
theorem As (row:List Nat) (D:List (List Nat)) (n:Nat):cL row D n 0=List.replicate n 0:=by
 unfold cL;apply Tr
 . simp
 . intro j a b;simp [LZ]
theorem NZ (row:List Nat) (D:List (List Nat)) (a:∀ x∈row,x<256) (t k:Nat):LZ row D t k<256:=by
 induction t with
 | zero=>exact (by decide:(0:Nat)<256)
 | succ t ih=>exact jU ih (aU _ (eA a t))
theorem pt (row:List Nat) (D:List (List Nat)) (a:∀ x∈row,x<256) (n t:Nat):∀ x∈cL row D n t,x<256:=by
 intro x b;obtain ⟨k,_,rfl⟩:=Tm.1 b;exact NZ row D a t k
theorem sD (row:List Nat) (D:List (List Nat)) (n t k:Nat) (a:k<n):(cL row D n t).getD k 0=LZ row D t k:=by simp [cL,a]
theorem At (row:List Nat) (D:List (List Nat)) (n t j:Nat) (a:j<n) :
 tv (gH (λi=>(cL row D n t).getD i 0) (λi=>(D.getD t []).getD i 0) (row.getD t 0) 0 n) j=vb (cL row D n (t+1)) j:=by
 unfold tv vb gH;rw [if_pos (by omega),sD _ _ _ _ _ a];show Value.int .u8 (((cL row D n t).getD j 0^^^gm (row.getD t 0) ((D.getD t []).getD (j-0) 0):Nat):Int)=_;rw [sD _ _ _ _ _ a,Nat.sub_zero];rfl
def RQ (w:Z1) (row:List Nat) (D:List (List Nat)) (n:Nat) (i:Z0) (wr:Z1):Prop:=
 ∃ t:Nat,t<=row.length/\i=Z8 Z9 t/\aM wr w.heap.size (cL row D n t)/\Below w.heap.size w wr
theorem Au (vr vd:Z0) (row:List Nat) (D:List (List Nat)) (n:Nat) (w:Z1) (U:Bs w vr row) (hd:Rd w vd D) (hn:n<=4096) (v:∀ i (T:i<D.length),(D[i]).length=n) (q:row.length=D.length) (z:0<D.length) :
 Calls ZZ 181 #[vr,vd] w λe w'=>∃ b,e=Z5 (Z6 (Z2 ⟨b,0,Z3⟩) n n)/\w.heap.size<=b/\aM w' b (cL row D n D.length)/\Below w.heap.size w w':=by
 have kc:=U.lt;obtain ⟨ao,cr,rfl,h1,h2,_,N⟩:=U;obtain ⟨rb,k,rfl,kb⟩:=N (by intro e;rw [e] at q;simp at q;omega);rcases hd.cases with ⟨rfl,_⟩|⟨b,off,c,rfl,hl,A⟩
 . simp at z
 have km:row.length<=140737488355328:=by omega
 obtain ⟨u0,F,kf⟩:=A 0 z;obtain ⟨kp,c0,rfl,l1,l2,_,_⟩:=kf;have f:=v 0 z;rw [f] at F;have HR:=hide kb;have HC:=hide A;have I:=hide v;have O:=hide q;clear kb A v q h1 h2 N f l1 l2;rw [Nat.add_zero] at F;go_enter Tryz.func181,Tryz.ntmps181;go_wp2_with (at_make;refine eB _ rfl (Z4 11) (Z4 11) rfl _ n rfl rfl rfl (by omega) ?_;intro w1 y P hz;clear hz);rw [<- As row D n] at y;clear F;go_loopw [15] (λi wr=>RQ w row D n i wr) (λi _=>row.length-(intOf i).toNat)
 case atStart=>exact ⟨0,Nat.zero_le _,rfl,y,P⟩
 case round=>
  clear y P;rename Z1=>wo;obtain ⟨t,ht,rfl,d,g⟩:=hrel;have ko:=d.lt;by_cases k9:t<row.length
  . have r:t<D.length:=(by rw [<- O.out];exact k9);have c1:=HR.out t k9;have kr:wo.cell? ⟨rb,k+t,Z3⟩=Z2 (Z8 .u8 ((row.getD t 0:Nat):Int)):=(by rw [g.cell (block_lt_of_cell c1)];exact c1);obtain ⟨u,G,kg⟩:=HC.out t r;obtain ⟨fo,M,rfl,q1,q2,q3,H⟩:=kg;have kk:wo.cell? ⟨b,off+t,Z3⟩=Z2 (.slice fo (D[t]).length M):=(by rw [g.cell (block_lt_of_cell G)];exact G);rw [I.out t r] at kk;have k5:=eA kc t;have k7:D.getD t []=D[t]:=(by simp [r]);have o:=At row D n t;rw [k7] at o;have Y:=I.out t r;have h:=hide Y;generalize D[t]=l at *;generalize kj:row.getD t 0=x at *;clear c1 G k7 kj Y;by_cases f:n=0
    . have Q:aM wo w.heap.size (cL row D n (t+1)):=(by rw [f] at d ⊢;exact d);have K:=hide f;clear o H d f;go_wp2_with fail;refine (xW _ _ _ _ _ _ x _ K.out K.out k5).mono ?_;rintro e w2 ⟨rfl,C⟩;have B:=Q.below C;have E:=g.trans (C.mono (by omega));clear Q C;go_wp2;go_roundw
      case rel=>exact ⟨t+1,by omega,by go_num,B,E⟩
      case measure=>simp [intOf];omega
    . obtain ⟨m,a,rfl,s⟩:=H (by intro e;rw [e] at h;exact f h.out.symm);rw [h.out] at s;have ki:0<l.length:=(by rw [h.out];omega);have kh:m<w.heap.size:=block_lt_of_cell (s 0 (by omega));have R:∀ i,i<n->wo.cell? ⟨m,a+i,Z3⟩=Z2 (Z8 .u8 ((l.getD i 0:Nat):Int)):=λi T=>by
       rw [g.cell (p:=⟨m,a+i,Z3⟩) kh];exact s i T
      have S:wo.rowIs w.heap.size 5 n (tv (λi=>(cL row D n t).getD i 0)):=by
       have:=d;unfold aM at this;rw [fR] at this;exact this
      have L:=hide o;have J:=hide R;have X:=hide S;have k8:=λj=>eA (pt row D kc n t) j;have Z:=λj=>eA q3 j;have W:=hide k8;have V:=hide Z;clear o s R S d H k8 Z ki h;go_wp2_with fail;refine (jm w.heap.size 5 n 0 n n m a M x (λi=>(cL row D n t).getD i 0) (λi=>l.getD i 0) wo k5 X.out W.out V.out (by omega) (by omega) J.out (.inl (by omega))).mono ?_;rintro e w2 ⟨rfl,ka,k6⟩;have B:aM w2 w.heap.size (cL row D n (t+1)):=by
       unfold aM;rw [fR];exact ka.congr (λj hj=>L.out j hj)
      have E:=iP g k6 (by omega) lR;clear ka k6 L J X W V;go_wp2;go_roundw
      case rel=>exact ⟨t+1,by omega,by go_num,B,E⟩
      case measure=>simp [intOf];omega
  . have ke:t=D.length:=(by rw [<- O.out];omega);rw [ke] at d;clear ke;go_wp2;go_ret;exact ⟨w.heap.size,rfl,Nat.le_refl _,d,g⟩
end
section
open Gf
def dB (M:List (List Nat)) (D:List (List Nat)) (n:Nat):List (List Nat):=M.map λrow=>cL row D n D.length
theorem mL (w:Z1) {ops:Array Oper} {rest:List Oper} {o:Oper} {a:Act} {Q:Exit->Act->Z1->Prop}
 (h:o.guard=Z3) (l c:Operand) (e:o.op=Op.makeSlice 95 l c) (C:Int) (n:Nat) (i:a.eval l=Z8 Z9 C) (g:a.eval c=Z8 Z9 C) (f:C=(n:Int)) (j:n<=1000000)
 (hK:∀ w',w'.rowIs w.heap.size 34 n (λ_=>Z6 Z3 0 0)->Below w.heap.size w w'->w'.heap.size=w.heap.size+1->wpList ZZ ops Q rest (a.put o.dst (Z6 (Z2 ⟨w.heap.size,0,Z3⟩) n n)) w') :
 wpList ZZ ops Q (o::rest) a w:=by
 refine wpList_plain h λK d=>?_;have b:=run_make_row' (P:=ZZ) 95 34 (Z6 Z3 0 0) 24 Tryz.underlying95 Tryz.infoBytes rfl .i64 .i64 n (by omega) (by omega) w;subst f;unfold Oper.wp;simp [execOp,e,i,g,b,Result.andThen];exact d _ _ (hK _ (World.rowIs_made w _ n _) (bA _ _) (nblk_alloc _ _))
def shv (T:List (Nat×Nat×List Nat)) (i:Nat):Z0:=if i<T.length then lg (T.getD i (0,0,[])) else Z6 Z3 0 0
structure oB (w:Z1) (base g N:Nat) (T:List (Nat×Nat×List Nat)):Prop where
 tab:w.rowIs g 34 N (shv T)
 row:∀ p∈T,base<=p.1/\aM w p.1 p.2.2/\p.2.1<=p.2.2.length/\(p.2.1<=140737488355328/\p.2.2.length<=9223372036854775807)/\∀ x∈p.2.2,x<256
 nodup:(T.map (λp=>p.1)).Nodup
theorem oB.below {w':Z1} (h:oB w base g N T) (d:Below w.heap.size w w'):oB w' base g N T:=
 ⟨h.tab.of_block (d.block g h.tab.lt),λp e=>by obtain ⟨a,b,c⟩:=h.row p e;exact ⟨a,b.below d,c⟩,h.nodup⟩
theorem oB.push {b n:Nat} {l:List Nat} (h:oB w base g N T) (A:base<=b) (s:aM w b l) (B:n<=l.length) (F:l.length<=140737488355328) (j:∀ x∈l,x<256) (v:∀ p∈T,p.1≠b) :
 oB (w.setCell ⟨g,T.length,Z3⟩ (Z6 (Z2 ⟨b,0,Z3⟩) n l.length)) base g N (T++[(b,n,l)]):=by
 have r:∀ c m,aM w c m->c≠g:=by
  intro c m f e;obtain ⟨x,j,_⟩:=f;obtain ⟨y,D,_⟩:=h.tab;rw [e,D] at j;simp at j
 refine ⟨?_,λp d=>?_,?_⟩
 . refine (h.tab.set T.length (Z6 (Z2 ⟨b,0,Z3⟩) n l.length)).congr λi E=>?_;unfold shv;by_cases e:i=T.length
   . subst e;simp [lg]
   . rw [if_neg e];by_cases k:i<T.length
     . rw [if_pos k,if_pos (by simp;omega)];simp [List.getElem?_append_left k]
     . rw [if_neg k,if_neg (by simp;omega)]
 . rcases To.1 d with d|d
   . obtain ⟨t,o,u⟩:=h.row p d;exact ⟨t,o.other (r _ _ o) _,u⟩
   . simp at d;subst d;exact ⟨A,s.other (r _ _ s) _,B,⟨by show n<=140737488355328;omega,by show l.length<=9223372036854775807;omega⟩,j⟩
 . rw [Ts,List.nodup_append];refine ⟨h.nodup,by simp,?_⟩;intro a z c f;obtain ⟨q,C,rfl⟩:=Tm.1 z;simp at f;subst f;exact v q C
theorem oB.done (h:oB w base g N T) (d:N=T.length) (f:base<=g) (j:N<=maxLen):iL w base (Z6 (Z2 ⟨g,0,Z3⟩) N N) T:=by
 subst d;refine ⟨⟨by simp,.inr ?_⟩,h.row,h.nodup⟩;obtain ⟨c,e,l,k⟩:=h.tab;refine ⟨g,T.length,c,rfl,f,e,Nat.le_refl _,j,by omega,?_⟩;apply Tr
 . simp;omega
 . intro i b a;simp at b a;have:=k i a;rw [Array.getElem?_eq_getElem (by omega)] at this;simp at this;simp [this,shv,a]
theorem oB.lt (h:oB w base g N T):g<w.heap.size:=h.tab.lt
def RT (w:Z1) (B g N n:Nat) (M D:List (List Nat)) (i:Z0) (wr:Z1):Prop:=
 ∃ k T,k<=N/\i=Z8 Z9 (k:Nat)/\oB wr B g N T/\cZ T n (dB (M.take k) D n)/\Below B w wr/\B<=wr.heap.size
def N1 (w:Z1) (n:Nat) (M D:List (List Nat)) (x:Z0) (e:Ending) (w':Z1):Prop:=∃ v T,e=Z5 (.tuple #[v,x])/\iL w' w.heap.size v T/\cZ T n (dB M D n)/\Below w.heap.size w w'
theorem cZ.at {D:Nat} {M:List (List Nat)} (h:cZ T D M) {i:Nat} (a:i<T.length) (b:i<M.length):T[i].2=(D,M[i]):=by
 have:=List.getElem_of_eq h (i:=i) (by simpa using a);simpa using this
theorem Jz (D L G:Nat):(aL D L G).length=D+L+G:=by simp [aL];omega
theorem JA (D L G:Nat) {i:Nat} (b:i<(aL D L G).length):((aL D L G)[i]).length=D:=by
 have a:(aL D L G)[i]∈aL D L G:=List.getElem_mem b;unfold aL at a;rcases To.1 a with a|a
 . rcases To.1 a with a|a
   . obtain ⟨j,_,e⟩:=Tm.1 a;unfold aL;rw [<- e];simp [dw]
   . obtain ⟨j,_,e⟩:=Tm.1 a;unfold aL;rw [<- e];simp [dO]
 . obtain ⟨j,_,e⟩:=Tm.1 a;unfold aL;rw [<- e];simp [cd]
theorem F2 (M D:List (List Nat)) (n k:Nat) (a:k<M.length):dB (M.take (k+1)) D n=dB (M.take k) D n++[cL M[k] D n D.length]:=by
 unfold dB;rw [List.take_succ_eq_append_getElem a,Ts];rfl
theorem Da (D L G:Nat) (hr:cn D L G=true) (qf:1<=D) (hD:D<=12) (hL:1<=L) (q0:L<=4) (hG:G<=4) (ka:D%L=0) (vd:Z0) (Dt:List (List Nat)) (w:Z1) (V:Rd w vd Dt) (z:Dt.length=D) (q:Pz Dt) :
 Calls ZZ 163 #[.agg #[Z8 Z9 D,Z8 Z9 L,Z8 Z9 G],vd] w λe w'=>N1 w (Dt.getD 0 []).length (aL D L G) Dt .nilIface e w':=by
 have qh:(((Dt.length:Nat):Int) != (D:Int))=false:=by rw [z];simp
 have B:0<Dt.length:=by omega
 obtain ⟨ao,c,rfl,hl,q7⟩:=id V;have qb:(Dt.getD 0 []).length<=4096:=by
  have:=(q 0 B);have Q:=this.2;rw [this.1] at Q;exact Q
 have X:∀ i (l:i<Dt.length),(Dt[i]).length=(Dt.getD 0 []).length:=λi l=>(q i l).1;generalize hn:(Dt.getD 0 []).length=n at *;have hv:=hide X;have HF:=hide q;have hy:=hide z;clear q7 hn X q z;go_enter Tryz.func163,Tryz.ntmps163;go_wp2_with fail;refine (jZ D L G hr hD hL q0 hG ka _).mono ?_;rintro e wa ⟨v,T,rfl,E,C,u⟩;rw [nblk_alloc] at E u;have qc:=u.size;rw [nblk_alloc] at qc;obtain ⟨p0,p1,p2⟩:=fK u;have o:Below w.heap.size w wa:=(bA _ _).trans (u.mono (by omega));have kk:=V.mono o;go_wp2_with fail;refine (Jy _ Dt _ kk B).mono ?_;rintro e g ⟨r,rfl,kr,rfl⟩;obtain rfl:r=true:=kr.2 HF.out;obtain ⟨mo,hb,rfl,kp⟩:=E.slice;have h:=C.length;rw [Jz] at h;obtain ⟨mg,rfl⟩:=kp (by intro e;rw [e] at h;simp at h;omega);have q2:T.length<=20:=by omega
 have qe:=hide h;clear h kp kr;go_wp2_with (at_make;refine mL _ rfl (Z4 31) (Z4 31) rfl _ T.length rfl rfl rfl (by omega) ?_;intro wc W O hz;clear hz);have kf:oB wc g.heap.size g.heap.size T.length []:=⟨W.congr (λi _=>by simp [shv]),λp F=>by simp at F,by simp⟩;have ks:=O.size;generalize hM:aL D L G=M at *;have HM:Hid (∀ i (l:i<M.length),(M[i]).length=D):=by intro i l;subst hM;exact JA D L G l
 have P:=hide C;have kx:=hide hM;clear W hM C p0 p1 p2;go_loopw [35] (λi wr=>RT g g.heap.size g.heap.size T.length n M Dt i wr) (λi _=>T.length-(intOf i).toNat)
 case atStart=>exact ⟨0,[],Nat.zero_le _,rfl,kf,rfl,O,ks⟩
 case round=>
  clear kf O ks;rename Z1=>wo;obtain ⟨k,S,hk,rfl,a,d,f,qd⟩:=hrel;have R:=P.out.length;have t:=d.length;unfold dB at t;rw [List.length_map,List.length_take] at t;by_cases j:k<T.length
  . have A:k<M.length:=(by omega);have K:=E.below f;have km:=kk.mono f;have y:=K.cell_at j;have b:=K.row_at j;have N:=P.out.at j A;have J:=HM.out k A;obtain ⟨⟨rb,rn,rl⟩,kj⟩:∃ p,p=T[k]:=⟨_,rfl⟩;rw [<- kj] at y b N;simp only [lg,Tq] at y b N;obtain ⟨rfl,rfl⟩:=N;rw [List.take_of_length_le (by omega)] at b;rw [J] at y b;have kh:S.length=k:=(by omega);have q5:=a.tab.cell (i:=k) j;have q8:=a.tab.frozen k;have U:=F2 M Dt n k A;have Z:=hide U;have Y:=hide d;have ky:=hide kh;have H:=hide J;clear U d kh J R t kj;go_wp2_with fail;refine (Au _ _ M[k] Dt n wo (by rw [H.out] at *;exact b) km qb hv.out (by rw [H.out,hy.out]) B).mono ?_;rintro e w2 ⟨b2,rfl,qg,ke,m⟩;have s:=a.below m;have q6:=s.tab.cell (i:=k) j;have q9:=s.tab.frozen k;have qj:=m.size;have qi:=a.lt;have kg:=s.push (n:=n) (by omega) ke (by rw [fR];omega) (by rw [fR];omega) (pt _ _ (λx hx=>b.lt x hx) _ _) (λp F=>by have:=(a.row p F).2.1.lt;omega);rw [fR,ky.out] at kg;have q3:=(f.trans (m.mono qd)).setCell (p:=⟨g.heap.size,k,Z3⟩) lR (Z6 (Z2 ⟨b2,0,Z3⟩) n n);have I:=Y.out.push b2 (cL M[k] Dt n Dt.length);rw [<- Z.out] at I;have kv:=hide I;generalize shv S k=ov at *;clear a s ke m f b y K km I q5 q8 Z Y H;go_wp2;go_roundw
    case rel=>exact ⟨k+1,_,by omega,by go_num,kg,kv.out,q3,by rw [nblk_setCell];omega⟩
    case measure=>simp [intOf];omega
  . have qa:k=T.length:=(by omega);have ko:k=M.length:=(by omega);have kz:cZ S n (dB M Dt n):=(by rw [ko,List.take_length] at d;exact d);have ki:=a.done (by omega) lR (by unfold maxLen;omega);have q4:=o.trans (f.mono o.size);have q1:=ki.weaken (base':=w.heap.size) o.size;clear d a f ki qa ko R t;go_wp2;go_ret2;exact ⟨_,S,rfl,q1,by rw [kx.out];exact kz,q4⟩
end
end Go.Proofs.YtfbmmcnpjhmjaaaGreatDoor
