import Derived.LaidEql
import Derived.Stop.Asserts
import Derived.RowKitTokens
import Derived.ChangeSame
import Derived.ChangeVars
import Derived.JoinedOf
import Derived.RowKit
import Derived.LaidLaws
import Derived.LaidHandle
import Derived.Stop.Joined
import Derived.Lib.SmallJoins
import Derived.Test.YtfbmmcnpjhmjaaaGreatDoorM05
set_option maxRecDepth 100000
set_option maxHeartbeats 8000000
open Go.IntKind renaming i64 -> Z9, u64 -> Z8
open Go.Value renaming int -> Z7, pointer -> Z6, slice -> Z5, bool -> Z2
open Go.Obj renaming cells -> Z4
open Go.Ending renaming returned -> Z3
open Go.Operand renaming tmp -> Z1
open Option renaming none -> Z0, some -> ZZ
open Bool renaming false -> ZY
open Go renaming World -> ZX, Value -> ZW
open List renaming length_map -> Tm, range -> To, length_range -> Ts, getD_eq_getElem?_getD -> Tt, mem_singleton -> Tv, map_toArray -> Tz, map_cons -> TA, map_append -> TB
open Go renaming method -> Tn
open Array renaming getElem?_eq_some_iff -> Tp
open Nat renaming le_trans -> Tq, le_refl -> Tr, eq_zero_or_pos -> Tu, lt_of_lt_of_le -> Tx
open Option.some renaming inj -> Tw
open Int renaming toNat_natCast -> Ty
open Go.Proofs.Tryz renaming prog -> ZV
namespace Go.Proofs.YtfbmmcnpjhmjaaaGreatDoor
open Go.RowKit
variable {L:List (Nat×Nat)} {l:List Nat} {xs:List ZW} {n nb p k b:Nat} {D:Nat->Bool} {v0 v:ZW} {w0 w w' wr:ZX}
section
open Go.Deep Go.Extern.Stop Go.Stop Go.Extern
theorem Tryz.valueOfP (t:Addr) (w:ZX):(ReflectliteValue.unpack (.iface 94 (Z6 (ZZ t)))).run ZV w
 = .ok (.agg #[Z6 (ZZ ⟨3,94,Z0⟩),Z6 (ZZ ⟨w.heap.size,0,Z0⟩),Z7 Z8 150]) (w.alloc (Z4 #[Z6 (ZZ t)] 94)):=by kernel_rfl
theorem Tryz.typeP (a:Addr) (w:ZX):(ReflectliteValue.methodAny (ReflectliteValue.valueError "reflectlite.Value.Type" 0) (λt _ _ _=>ReflectliteType.toType t) #[.agg #[Z6 (ZZ ⟨3,94,Z0⟩),Z6 (ZZ a),Z7 Z8 150]]).run ZV w
 = .ok (.iface 148 (.agg #[Z6 (ZZ ⟨3,94,Z0⟩)])) w:=by kernel_rfl
theorem Tryz.methodKind (h:ZW) (w:ZX):(Tn 461 148 (.agg #[h]) "Kind").run ZV w=.ok (229,h) w:=by kernel_rfl
theorem Tryz.kindP (w:ZX):((ReflectliteType.abiMethod λt=>(λa:Nat=>Value.int IntKind.u8 (a:Int)) <$> Rtype.kind t) #[Z6 (ZZ ⟨3,94,Z0⟩)]).run ZV w=.ok (Z7 .u8 22) w:=by kernel_rfl
theorem Tryz.kindE (w:ZX):((ReflectliteType.abiMethod λt=>(λa:Nat=>Value.int IntKind.u8 (a:Int)) <$> Rtype.kind t) #[Z6 (ZZ ⟨3,66,Z0⟩)]).run ZV w=.ok (Z7 .u8 2) w:=by kernel_rfl
theorem Tryz.partsP (a:Addr) (w:ZX):(ReflectliteValue.parts (.agg #[Z6 (ZZ ⟨3,94,Z0⟩),Z6 (ZZ a),Z7 Z8 150])).run ZV w=.ok (ZZ (94,a,150)) w:=by kernel_rfl
theorem Tryz.isNilP (a p:Addr) (W:ZX) (b:W.cell? a=ZZ (Z6 (ZZ p))) :
 (ReflectliteValue.method (ReflectliteValue.valueError "reflectlite.Value.IsNil" 0) ReflectliteValue.isNil #[.agg #[Z6 (ZZ ⟨3,94,Z0⟩),Z6 (ZZ a),Z7 Z8 150]]).run ZV W=.ok (Z2 ZY) W:=by
 refine Eq.trans (congrArg (λz=>Sem.run ZV z W) (show ReflectliteValue.method _ _ #[.agg #[Z6 (ZZ ⟨3,94,Z0⟩),Z6 (ZZ a),Z7 Z8 150]]=(ReflectliteValue.parts (.agg #[Z6 (ZZ ⟨3,94,Z0⟩),Z6 (ZZ a),Z7 Z8 150]) >>= _) from rfl)) ?_;simp only [Sem.run_bind,Tryz.partsP,Result.andThen];simp [ReflectliteValue.isNil,loadVar,isAgg,underlying,Tryz.underlying94,b,Result.andThen]
theorem Tryz.methodElem (h:ZW) (w:ZX):(Tn 461 148 (.agg #[h]) "Elem").run ZV w=.ok (242,.agg #[h]) w:=by kernel_rfl
theorem Tryz.methodImplements (h:ZW) (w:ZX):(Tn 461 148 (.agg #[h]) "Implements").run ZV w=.ok (243,.agg #[h]) w:=by kernel_rfl
theorem Tryz.methodAssignableTo (h:ZW) (w:ZX):(Tn 461 148 (.agg #[h]) "AssignableTo").run ZV w=.ok (240,.agg #[h]) w:=by kernel_rfl
theorem Tryz.elemP (w:ZX):(ReflectliteType.method ReflectliteType.elem #[.agg #[Z6 (ZZ ⟨3,94,Z0⟩)]]).run ZV w=.ok (.iface 148 (.agg #[Z6 (ZZ ⟨3,66,Z0⟩)])) w:=by kernel_rfl
theorem Tryz.implementsE (w:ZX):(ReflectliteType.relation "Implements" ReflectliteType.implements_ #[.agg #[Z6 (ZZ ⟨3,66,Z0⟩)],.iface 148 (.agg #[Z6 (ZZ ⟨3,63,Z0⟩)])]).run ZV w=.ok (Z2 true) w:=by kernel_rfl
theorem Tryz.typeOfE (v:ZW) (w:ZX):(ReflectliteType.typeOf #[.iface 66 v]).run ZV w=.ok (.iface 148 (.agg #[Z6 (ZZ ⟨3,66,Z0⟩)])) w:=by kernel_rfl
theorem Tryz.assignableE (w:ZX):(ReflectliteType.relation "AssignableTo" ReflectliteType.assignableTo #[.agg #[Z6 (ZZ ⟨3,66,Z0⟩)],.iface 148 (.agg #[Z6 (ZZ ⟨3,66,Z0⟩)])]).run ZV w=.ok (Z2 true) w:=by kernel_rfl
theorem Tryz.valueOfE (x:Int) (w:ZX):(ReflectliteValue.unpack (.iface 66 (Z7 Z9 x))).run ZV w
 = .ok (.agg #[Z6 (ZZ ⟨3,66,Z0⟩),Z6 (ZZ ⟨w.heap.size,0,Z0⟩),Z7 Z8 130]) (w.alloc (Z4 #[Z7 Z9 x] 66)):=by kernel_rfl
theorem Tryz.elemOfP (w:ZX):(Rtype.elem? 94).run ZV w=.ok (ZZ 66) w:=by kernel_rfl
theorem Tryz.mkE (p:Addr) (w:ZX):(ReflectliteValue.mk 66 p ReflectliteValue.flagAddr).run ZV w=.ok (.agg #[Z6 (ZZ ⟨3,66,Z0⟩),Z6 (ZZ p),Z7 Z8 386]) w:=by kernel_rfl
theorem Tryz.elemVP (a p:Addr) (W:ZX) (b:W.cell? a=ZZ (Z6 (ZZ p))) :
 (ReflectliteValue.method (ReflectliteValue.valueError "reflectlite.Value.Elem" 0) ReflectliteValue.elem #[.agg #[Z6 (ZZ ⟨3,94,Z0⟩),Z6 (ZZ a),Z7 Z8 150]]).run ZV W
  = .ok (.agg #[Z6 (ZZ ⟨3,66,Z0⟩),Z6 (ZZ p),Z7 Z8 386]) W:=by
 refine Eq.trans (congrArg (λz=>Sem.run ZV z W) (show ReflectliteValue.method _ _ #[.agg #[Z6 (ZZ ⟨3,94,Z0⟩),Z6 (ZZ a),Z7 Z8 150]]=(ReflectliteValue.parts (.agg #[Z6 (ZZ ⟨3,94,Z0⟩),Z6 (ZZ a),Z7 Z8 150]) >>= _) from rfl)) ?_;simp only [Sem.run_bind,Tryz.partsP,Result.andThen];simp [ReflectliteValue.elem,loadVar,isAgg,underlying,Tryz.underlying94,b,Result.andThen,Tryz.elemOfP,Tryz.mkE]
theorem Tryz.partsEa (a:Addr) (w:ZX):(ReflectliteValue.parts (.agg #[Z6 (ZZ ⟨3,66,Z0⟩),Z6 (ZZ a),Z7 Z8 386])).run ZV w=.ok (ZZ (66,a,386)) w:=by kernel_rfl
theorem Tryz.partsE (a:Addr) (w:ZX):(ReflectliteValue.parts (.agg #[Z6 (ZZ ⟨3,66,Z0⟩),Z6 (ZZ a),Z7 Z8 130])).run ZV w=.ok (ZZ (66,a,130)) w:=by kernel_rfl
theorem Tryz.directE (w:ZX):(Rtype.directlyAssignable 66 66).run ZV w=.ok true w:=by kernel_rfl
theorem Tryz.setE (a b:Addr) (x:Int) (old:ZW) (W:ZX) (c:W.cell? b=ZZ (Z7 Z9 x)) (e:W.cell? a=ZZ old) (d:W.frozen? a=ZY) :
 (ReflectliteValue.set #[.agg #[Z6 (ZZ ⟨3,66,Z0⟩),Z6 (ZZ a),Z7 Z8 386],.agg #[Z6 (ZZ ⟨3,66,Z0⟩),Z6 (ZZ b),Z7 Z8 130]]).run ZV W
  = .ok (.tuple #[]) (W.setCell a (Z7 Z9 x)):=by
 refine Eq.trans (congrArg (λz=>Sem.run ZV z W) (show ReflectliteValue.set #[.agg #[Z6 (ZZ ⟨3,66,Z0⟩),Z6 (ZZ a),Z7 Z8 386],.agg #[Z6 (ZZ ⟨3,66,Z0⟩),Z6 (ZZ b),Z7 Z8 130]]=(ReflectliteValue.parts (.agg #[Z6 (ZZ ⟨3,66,Z0⟩),Z6 (ZZ a),Z7 Z8 386]) >>= λp=>ReflectliteValue.parts (.agg #[Z6 (ZZ ⟨3,66,Z0⟩),Z6 (ZZ b),Z7 Z8 130]) >>= (_:_->Sem ZW)) from rfl)) ?_;simp only [Sem.run_bind,Tryz.partsEa,Tryz.partsE,Result.andThen];simp [ReflectliteValue.flagAddr,loadVar,isAgg,underlying,Tryz.underlying66,c,Result.andThen,Tryz.directE,storeVar,Value.cells,storeCells,Addr.add];rw [run_store ZV W a _ _ (by rfl)];simp [e,d]
theorem NH (x:Int) (t:Addr) (old:ZW) (w:ZX) (c:w.cell? ⟨0,0,Z0⟩=ZZ (.iface 148 (.agg #[Z6 (ZZ ⟨3,63,Z0⟩)]))) (a:w.cell? t=ZZ old) (f:w.frozen? t=ZY) :
 Calls ZV 36 #[.iface 66 (Z7 Z9 x),.iface 94 (Z6 (ZZ t))] w λd w'=>d=Z3 (Z2 true)/\w'=((((w.alloc (Z4 #[Z6 (ZZ t)] 94)).alloc (Z4 #[Z6 (ZZ ⟨3,94,Z0⟩),Z6 (ZZ ⟨w.heap.size,0,Z0⟩),Z7 Z8 150] 106)).alloc (Z4 #[Z6 (ZZ ⟨3,94,Z0⟩),Z6 (ZZ ⟨w.heap.size,0,Z0⟩),Z7 Z8 150] 106)).alloc (Z4 #[Z7 Z9 x] 66)).setCell t (Z7 Z9 x):=by
 have o := @run_callFunc_extern ZV 49 _ (λargs=>ReflectliteValue.unpack (args.getD 0 (.tuple #[]))) Tryz.func49 (by kernel_rfl) (by kernel_rfl) (by kernel_rfl) (by kernel_rfl);have p := @run_callFunc_extern ZV 50 _ (ReflectliteValue.methodAny (ReflectliteValue.valueError "reflectlite.Value.Type" 0) (λt _ _ _=>ReflectliteType.toType t)) Tryz.func50 (by kernel_rfl) (by kernel_rfl) (by kernel_rfl) (by kernel_rfl);have q := @run_callFunc_extern ZV 51 _ (ReflectliteValue.method (ReflectliteValue.valueError "reflectlite.Value.IsNil" 0) ReflectliteValue.isNil) Tryz.func51 (by kernel_rfl) (by kernel_rfl) (by kernel_rfl) (by kernel_rfl);have u := @run_callFunc_extern ZV 229 _ (ReflectliteType.abiMethod λt=>do pure (Z7 .u8 (<- Rtype.kind t))) Tryz.func229 (by kernel_rfl) (by kernel_rfl) (by kernel_rfl) (by kernel_rfl);have y := @run_callFunc_extern ZV 242 _ (ReflectliteType.method ReflectliteType.elem) Tryz.func242 (by kernel_rfl) (by kernel_rfl) (by kernel_rfl) (by kernel_rfl);have z := @run_callFunc_extern ZV 243 _ (ReflectliteType.relation "Implements" ReflectliteType.implements_) Tryz.func243 (by kernel_rfl) (by kernel_rfl) (by kernel_rfl) (by kernel_rfl);have n := @run_callFunc_extern ZV 78 _ ReflectliteType.typeOf Tryz.func78 (by kernel_rfl) (by kernel_rfl) (by kernel_rfl) (by kernel_rfl);have v := @run_callFunc_extern ZV 240 _ (ReflectliteType.relation "AssignableTo" ReflectliteType.assignableTo) Tryz.func240 (by kernel_rfl) (by kernel_rfl) (by kernel_rfl) (by kernel_rfl);have r := @run_callFunc_extern ZV 79 _ (ReflectliteValue.method (ReflectliteValue.valueError "reflectlite.Value.Elem" 0) ReflectliteValue.elem) Tryz.func79 (by kernel_rfl) (by kernel_rfl) (by kernel_rfl) (by kernel_rfl);have s := @run_callFunc_extern ZV 80 _ ReflectliteValue.set Tryz.func80 (by kernel_rfl) (by kernel_rfl) (by kernel_rfl) (by kernel_rfl);have J:=Tryz.typeOfE;have E:=Tryz.methodAssignableTo;have i:=Tryz.assignableE;have K:=Tryz.valueOfE;have l:=Tryz.valueOfP;have m:=Tryz.typeP;have H:=Tryz.methodKind;have F:=Tryz.methodElem;have G:=Tryz.methodImplements;have D:=Tryz.kindP;have C:=Tryz.kindE;have j:=Tryz.elemP;have B:=Tryz.implementsE;have I:=Tryz.isNilP ⟨w.heap.size,0,Z0⟩ t ((w.alloc (Z4 #[Z6 (ZZ t)] 94)).alloc (Z4 #[Z6 (ZZ ⟨3,94,Z0⟩),Z6 (ZZ ⟨w.heap.size,0,Z0⟩),Z7 Z8 150] 106)) (by simp);have g:0<w.heap.size:=by
  rcases Tu w.heap.size with e|h
  . simp [World.cell?,e] at c
  . exact h
 have A:((w.alloc (Z4 #[Z6 (ZZ t)] 94)).alloc (Z4 #[Z6 (ZZ ⟨3,94,Z0⟩),Z6 (ZZ ⟨w.heap.size,0,Z0⟩),Z7 Z8 150] 106)).cell? ⟨0,0,Z0⟩=ZZ (.iface 148 (.agg #[Z6 (ZZ ⟨3,63,Z0⟩)])):=by
  rw [World.cell?_alloc_lt _ _ ⟨0,0,Z0⟩ (by simp),World.cell?_alloc_lt _ _ ⟨0,0,Z0⟩ g];exact c
 have b:t.block<w.heap.size:=by
  rcases Nat.lt_or_ge t.block w.heap.size with h|h
  . exact h
  . simp [World.cell?,Array.getElem?_eq_none h] at a
 have k:=Tryz.elemVP ⟨w.heap.size,0,Z0⟩ t (((w.alloc (Z4 #[Z6 (ZZ t)] 94)).alloc (Z4 #[Z6 (ZZ ⟨3,94,Z0⟩),Z6 (ZZ ⟨w.heap.size,0,Z0⟩),Z7 Z8 150] 106)).alloc (Z4 #[Z6 (ZZ ⟨3,94,Z0⟩),Z6 (ZZ ⟨w.heap.size,0,Z0⟩),Z7 Z8 150] 106)) (by rw [World.cell?_alloc_lt _ _ ⟨w.heap.size,0,Z0⟩ (by simp;omega)];simp);have st:=Tryz.setE t ⟨w.heap.size+1+1+1,0,Z0⟩ x old ((((w.alloc (Z4 #[Z6 (ZZ t)] 94)).alloc (Z4 #[Z6 (ZZ ⟨3,94,Z0⟩),Z6 (ZZ ⟨w.heap.size,0,Z0⟩),Z7 Z8 150] 106)).alloc (Z4 #[Z6 (ZZ ⟨3,94,Z0⟩),Z6 (ZZ ⟨w.heap.size,0,Z0⟩),Z7 Z8 150] 106)).alloc (Z4 #[Z7 Z9 x] 66))
  (by rw [World.cell?_alloc_at _ _ _ _ (by simp)];rfl)
  (by rw [World.cell?_alloc_lt _ _ t (by simp;omega),World.cell?_alloc_lt _ _ t (by simp;omega),World.cell?_alloc_lt _ _ t (by simp;omega),World.cell?_alloc_lt _ _ t b];exact a)
  (by rw [World.frozen?_alloc_old _ _ t (by simp;omega),World.frozen?_alloc_old _ _ t (by simp;omega),World.frozen?_alloc_old _ _ t (by simp;omega),World.frozen?_alloc_old _ _ t (Nat.ne_of_lt b)];exact f)
 go_enter Tryz.func36,Tryz.ntmps36;go_wp2;refine wp_loop_rounds 1 ?_;rw [rounds_succ];go_wp2;go_ret;exact ⟨rfl,rfl⟩
theorem se (w:ZX) :
 Calls ZV 18 #[.nilIface] w λe w'=>e=Z3 (Z7 Z9 0)/\Below w.heap.size w w':=by
 go_enter Tryz.func18,Tryz.ntmps18;go_wp2;go_ret;exact ⟨rfl,bA _ _⟩
theorem CM (x:Int) (w:ZX) (a:w.cell? ⟨0,0,Z0⟩=ZZ (.iface 148 (.agg #[Z6 (ZZ ⟨3,63,Z0⟩)]))) :
 Calls ZV 18 #[.iface 66 (Z7 Z9 x)] w λe w'=>e=Z3 (Z7 Z9 x)/\Below w.heap.size w w':=by
 have d:0<w.heap.size:=by
  rcases Tu w.heap.size with b|h
  . simp [World.cell?,b] at a
  . exact h
 have c:(w.alloc (Z4 #[Z7 Z9 0] 66)).cell? ⟨0,0,Z0⟩=ZZ (.iface 148 (.agg #[Z6 (ZZ ⟨3,63,Z0⟩)])):=by
  rw [World.cell?_alloc_lt _ _ ⟨0,0,Z0⟩ d];exact a
 go_enter Tryz.func18,Tryz.ntmps18;go_wp2_with (go_at_call 36;refine (NH x ⟨w.heap.size,0,Z0⟩ (Z7 Z9 0) _ c (by simp) (by simp)).mono ?_;rintro e w' ⟨rfl,rfl⟩);go_ret;refine ⟨rfl,?_⟩;repeat (first|exact Below.refl _ _|refine Below.setCell ?_ (by simp) _|refine Below.alloc ?_ (by (try simp only [nblk_alloc]);omega) _)
theorem od (x:Int) (w:ZX) :
 Calls ZV 20 #[Z7 Z9 x] w λe w'=>e=Z3 (Z7 Z9 x)/\w'=w:=by
 go_enter Tryz.func20,Tryz.ntmps20;go_wp2;go_ret;exact ⟨rfl,rfl⟩
end
section
open Go.Deep Gf
def Av (D:List (List Nat)) (l:List Nat):Prop:=l.length=(D.getD 0 []).length/\l.length<=4096
def Pz (D:List (List Nat)):Prop:=∀ i (hi:i<D.length),Av D D[i]
def RR (D:List (List Nat)) (i:ZW):Prop:=∃ k:Nat,k<=D.length/\i=Z7 Z9 k/\∀ j (hj:j<D.length),j<k->Av D D[j]
def N0 (D:List (List Nat)) (w:ZX) (e:Ending) (w':ZX):Prop:=∃ r:Bool,e=Z3 (Z2 r)/\(r=true↔Pz D)/\w'=w
theorem Jy (x:ZW) (D:List (List Nat)) (w:ZX) (H:Rd w x D) (g:0<D.length) :
 Calls ZV 180 #[x] w λe w'=>N0 D w e w':=by
 rcases H.cases with ⟨rfl,_⟩|⟨b,off,c,rfl,R,l⟩
 . simp at g
 obtain ⟨u0,s,F⟩:=l 0 g;obtain ⟨B,L,rfl,l1,J,_,_⟩:=F;have q:(D.getD 0 []).length=(D[0]).length:=by simp [g]
 have C:(D[0]).length<=140737488355328:=by omega
 rw [<- q] at s C;rw [Nat.add_zero] at s;have y:=hide l;clear l l1 J q;go_enter Tryz.func180,Tryz.ntmps180;go_wp2;go_loop [7] (λi=>RR D i) (λi=>D.length-(intOf i).toNat)
 case atStart=>exact ⟨0,Nat.zero_le _,rfl,λj m h=>absurd h (by omega)⟩
 case round=>
  obtain ⟨k,Q,rfl,d⟩:=hrel;by_cases r:k<D.length
  . obtain ⟨u,S,G⟩:=y.out k r;obtain ⟨N,M,rfl,n,o,_,_⟩:=G;have P:(D[k]).length<=140737488355328:=(by omega);by_cases a:Av D D[k]
    . have v:((((D[k]).length:Nat):Int) != (((D.getD 0 []).length:Nat):Int))=ZY:=(by rw [a.1];simp);have K:¬ (4096:Int)<(((D[k]).length:Nat):Int):=(by have:=a.2;omega);have A:Hid (∀ j (m:j<D.length),j<k+1->Av D D[j]):=by
       intro j m O;by_cases e:j=k
       . subst e;exact a
       . exact d j m (by omega)
      have E:=a.1;generalize (D.getD 0 []).length=n0 at *;generalize (D[k]).length=t at *;clear d a E n o;go_wp2;go_round
      case rel=>exact ⟨k+1,by omega,by go_num,A.out⟩
      case measure=>simp [intOf];omega
    . have p:Hid (¬ Pz D):=λh=>a (h k r);by_cases f:(D[k]).length=(D.getD 0 []).length
      . have v:((((D[k]).length:Nat):Int) != (((D.getD 0 []).length:Nat):Int))=ZY:=(by rw [f];simp);have K:(4096:Int)<(((D[k]).length:Nat):Int):=by
         have:¬ (D[k]).length<=4096:=λh=>a ⟨f,h⟩;omega
        generalize (D.getD 0 []).length=n0 at *;generalize (D[k]).length=t at *;clear d a f n o;go_wp2;go_ret;exact ⟨ZY,rfl,⟨λh=>by simp at h,λh=>absurd h p.out⟩,rfl⟩
      . have v:((((D[k]).length:Nat):Int) != (((D.getD 0 []).length:Nat):Int))=true:=(by rw [bne_iff_ne];omega);generalize (D.getD 0 []).length=n0 at *;generalize (D[k]).length=t at *;clear d a f n o;go_wp2;go_ret;exact ⟨ZY,rfl,⟨λh=>by simp at h,λh=>absurd h p.out⟩,rfl⟩
  . have z:Hid (Pz D):=λi I=>d i I (by omega);clear d;go_wp2;go_ret;exact ⟨true,rfl,⟨λ_=>z.out,λ_=>rfl⟩,rfl⟩
end
section
open Go.ChangeShapes Go.WideShapes
theorem Tryz.own:ownKnob ZV.godebug=Z0:=by kernel_rfl
theorem Tryz.et:ZV.globalNamed "errors.errorType"=ZZ 0:=by kernel_rfl
theorem Tryz.rt:(ZV.cutTypes.find? (λx=>x.1 == "internal/reflectlite.rtype")).map (λx=>x.2)=ZZ 148:=by kernel_rfl
theorem Tryz.oneRow:((To 361).filter λt=>ZV.rowNamed t [101,114,114,111,114])=[63]:=by kernel_rfl
theorem Tryz.size:ZV.types.size=361:=by kernel_rfl
def cE (w:ZX):Prop:=w.cell? ⟨0,0,Z0⟩=ZZ (.iface 148 (.agg #[Z6 (ZZ ⟨3,63,Z0⟩)]))
theorem sE {W:ZX} (h:laidMetH ZV [("errors.errorType",Rows.laid_errors_errorType)] W):cE W:=by
 have i:laidMet ZV [] W/\handlesMet ZV [("errors.errorType",Rows.laid_errors_errorType)] W:=h;obtain ⟨name,u,k,c,d,e,f,a⟩:=i.2 _ (Tv.2 rfl);have g:name=[101,114,114,111,114]:=(Tw c).symm;subst g;obtain rfl:=Tw (Tryz.rt.symm.trans d);have b:k∈(To 361).filter λt=>ZV.rowNamed t [101,114,114,111,114]:=List.mem_filter.2 ⟨List.mem_range.2 (by rw [<- Tryz.size];exact e),f⟩;rw [Tryz.oneRow] at b;obtain rfl:=Tv.1 b;have j:typeHandle ZV 63=Z6 (ZZ ⟨3,63,Z0⟩):=by kernel_rfl
 rw [j] at a;unfold cE;simpa using World.var?_cell Tryz.et a 0
end
section
open Go.Deep
def lP (n nb:Nat):aB:=⟨n,nb,-1,λ_=>ZY,λ_ _=>ZY,λ_ _=>zb,λ_=>0⟩
theorem nA (a:n<=1000) (b:nb<=1000000):(lP n nb).fit:=⟨a,b,λ_ _=>bD,λ_ _ x c=>by have:=List.eq_of_mem_replicate c;show x<256;omega⟩
def qP (w:ZX) (b nb:Nat):Prop:=w.rowIs b 255 (64*nb) (λ_=>Z7 .u8 0)
def tF (w:ZX) (b nb:Nat):Prop:=w.rowIs b 4 nb (λ_=>Z2 ZY)
def dR (nb:Nat) (q:Nat×Nat):List ZW:=[Z2 ZY,Z5 (ZZ ⟨q.1,0,Z0⟩) nb nb,Z5 (ZZ ⟨q.2,0,Z0⟩) nb nb,Z7 Z9 0]
def yW (nb:Nat) (l:List (Nat×Nat)):List ZW:=l.flatMap (dR nb)
theorem Tryz.infoDrive:(ZV.info? 61).map (λi=>(i.zero,i.size,i.bytes))=ZZ (ZZ (.agg #[Z2 ZY,Z5 Z0 0 0,Z5 Z0 0 0,Z7 Z9 0]),4,64):=by kernel_rfl
theorem Tryz.infoBool1:(ZV.info? 4).map (λi=>(i.zero,i.size,i.bytes))=ZZ (ZZ (Z2 ZY),1,1):=by kernel_rfl
theorem Ks (w:ZX) (nb:Nat):qP (w.alloc (Z4 (madeCells (an zb) (nb*64)) 255)) w.heap.size nb:=by
 refine ⟨_,blk_alloc_new _ _,by rw [size_madeCells];omega,λi c=>?_⟩;have b:(an zb).size=64:=by rw [bz,bD]
 have d:i%64<64:=Nat.mod_lt _ (by decide);have a:(an zb)[i%64]! = Z7 .u8 0:=by
  have e:an zb=Array.replicate 64 (Z7 .u8 0):=by simp only [an,aH,zb,List.map_replicate,List.toArray_replicate];rfl
  rw [getElem!_pos (an zb) (i%64) (by omega)];simp only [e,Array.getElem_replicate]
 simp [madeCells,b,a,show i<nb*64 by omega]
noncomputable def Rm:Array Oper:=((Tryz.f14.body.bind (mD · 4))).getD #[]
def PM:List (Op×Option Nat×List Nat):=[(Op.move (Z1 5),ZZ 11,[]),
 (Op.move (Z1 5),ZZ 12,[]),
 (Op.nilCheck (Z1 12),ZZ 13,[1]),
 (Op.fieldAddr 57 (Z1 13) 0,ZZ 14,[2]),
 (Op.load 55 (Z1 14),ZZ 15,[3]),
 (Op.move (Z1 1),ZZ 16,[]),
 (Op.call { callee:=Callee.builtin Builtin.max,args:=#[Z1 16,Operand.const (Value.int IntKind.i64 0)],argTypes:=#[3,3] },ZZ 17,[5]),
 (Op.makeSlice 58 (Z1 17) (Z1 17),ZZ 18,[6,6]),
 (Op.move (Z1 1),ZZ 19,[]),
 (Op.call { callee:=Callee.builtin Builtin.max,args:=#[Z1 19,Operand.const (Value.int IntKind.i64 0)],argTypes:=#[3,3] },ZZ 20,[8]),
 (Op.makeSlice 59 (Z1 20) (Z1 20),ZZ 21,[9,9]),
 (Op.build 61 #[(1,Z1 18),(2,Z1 21)],ZZ 22,[7,10]),
 (Op.buildSlice 55 1 #[(0,Z1 22)],ZZ 23,[11]),
 (Op.call { callee:=Callee.builtin Builtin.append,args:=#[Z1 15,Z1 23],argTypes:=#[55,55] },ZZ 24,[4,12]),
 (Op.nilCheck (Z1 11),ZZ 25,[0,0,1,2,3,4,5,6,7,8,9,10,11,12,13]),
 (Op.fieldAddr 57 (Z1 25) 0,ZZ 26,[14,0,1,2,3,4,5,6,7,8,9,10,11,12,13]),
 (Op.store 55 (Z1 26) (Z1 24),Z0,[15,13,13,0,1,2,3,4,5,6,7,8,9,10,11,12,13])]
theorem GE:aN Rm 11 27 PM:=bt (by kernel_rfl) (by kernel_rfl)
def Mf (w0:ZX) (p nb:Nat) (v0:ZW) (xs:List ZW) (k:Nat) (i:Nat) (u:ZW) (w:ZX):Prop:=match i with
 | 0|1|2|3|14|15=>u=Z6 (ZZ ⟨p,0,Z0⟩)
 | 4=>u=v0
 | 5|6|8|9=>u=Z7 Z9 nb
 | 7=>∃ b,w0.heap.size<=b/\u=Z5 (ZZ ⟨b,0,Z0⟩) nb nb/\qP w b nb
 | 10=>∃ b,w0.heap.size<=b/\u=Z5 (ZZ ⟨b,0,Z0⟩) nb nb/\tF w b nb
 | 11=>∃ q:Nat×Nat,w0.heap.size<=q.1/\w0.heap.size<=q.2/\u=.agg (dR nb q).toArray/\qP w q.1 nb/\tF w q.2 nb
 | 12=>∃ (c:Nat) (q:Nat×Nat),w0.heap.size<=c/\w0.heap.size<=q.1/\w0.heap.size<=q.2/\u=Z5 (ZZ ⟨c,0,Z0⟩) 1 1/\w.heap[c]?=ZZ (Z4 (dR nb q).toArray 61 (0,0))/\qP w q.1 nb/\tF w q.2 nb
 | 13=>∃ q:Nat×Nat,w0.heap.size<=q.1/\w0.heap.size<=q.2/\w.ownsRow (p+1) 61 4 u (k+1) (xs++dR nb q)/\qP w q.1 nb/\tF w q.2 nb
 | 16=>∃ (v':ZW) (q:Nat×Nat),w.heap[p]?=ZZ (Z4 #[v',Z7 Z9 (-1)] 57 (0,0))/\w0.heap.size<=q.1/\w0.heap.size<=q.2/\w.ownsRow (p+1) 61 4 v' (k+1) (xs++dR nb q)/\qP w q.1 nb/\tF w q.2 nb
 | _=>True
theorem lQ (j:∀ b,w0.heap.size<=b->b<w.heap.size->w'.heap[b]?=w.heap[b]?) (i:Nat) (u:ZW) (o:i≠13/\i≠16) (h:Mf w0 p nb v0 xs k i u w):Mf w0 p nb v0 xs k i u w':=by
 have l:∀ b,w0.heap.size<=b->qP w b nb->qP w' b nb:=λb e q=>World.rowIs.of_block q (j b e q.lt);have e:∀ b,w0.heap.size<=b->tF w b nb->tF w' b nb:=λb e q=>World.rowIs.of_block q (j b e q.lt);match i with
 | 0|1|2|3|14|15|4|5|6|8|9=>exact h
 | 7=>obtain ⟨b,a,d,f⟩:=h;exact ⟨b,a,d,l b a f⟩
 | 10=>obtain ⟨b,a,d,f⟩:=h;exact ⟨b,a,d,e b a f⟩
 | 11=>obtain ⟨q,a,d,f,g,m⟩:=h;exact ⟨q,a,d,f,l _ a g,e _ d m⟩
 | 12=>obtain ⟨c,q,r,a,d,f,g,m,s⟩:=h;exact ⟨c,q,r,a,d,f,(j c r (Tp.1 g).1).trans g,l _ a m,e _ d s⟩
 | 13=>exact absurd rfl o.1
 | 16=>exact absurd rfl o.2
 | n+17=>trivial
def Oq (w0:ZX) (p:Nat) (v0:ZW) (D:Nat->Bool) (w:ZX):Prop:=(∀ k,k<w0.heap.size->(D 13=true->v0.ownBlock≠ZZ k)->(D 16=true->k≠p)->w.heap[k]?=w0.heap[k]?)/\w0.heap.size<=w.heap.size/\w.os=w0.os/\w.tape=w0.tape/\w.output=w0.output
theorem rp (h:Oq w0 p v0 D w) (i:Nat) (a:w.heap.size<=w'.heap.size/\w'.os=w.os/\w'.tape=w.tape/\w'.output=w.output) (f:∀ k,k<w0.heap.size->(i=13->v0.ownBlock≠ZZ k)->(i=16->k≠p)->w'.heap[k]?=w.heap[k]?):Oq w0 p v0 (dN D i) w':=by
 obtain ⟨g,j,l,m,n⟩:=h;refine ⟨λk d b c=>?_,Tq j a.1,a.2.1.trans l,a.2.2.1.trans m,a.2.2.2.trans n⟩;unfold dN at b c;refine (f k d (λe=>b (by rw [if_pos e.symm])) (λe=>c (by rw [if_pos e.symm]))).trans (g k d (λe=>b ?_) (λe=>c ?_))
 . split
   . rfl
   . exact e
 . split
   . rfl
   . exact e
theorem dJ (h:Oq w0 p v0 D w) (i:Nat):Oq w0 p v0 (dN D i) w:=rp h i ⟨Tr _,rfl,rfl,rfl⟩ (λ_ _ _ _=>rfl)
theorem pH (h:Oq w0 p v0 D w) (i:Nat) (o:Obj):Oq w0 p v0 (dN D i) (w.alloc o):=
 rp h i ⟨by simp,rfl,rfl,rfl⟩ (λk a _ _=>blk_alloc_lt _ _ _ (Tx a h.2.1))
theorem DG {ops:Array Oper} {Q:Exit->Act->ZX->Prop} {a:Act} (hx:Rm=ops) (ko:nb<=1000000) (B:k<=1000) (V:w.ownsRow (p+1) 61 4 v0 k xs)
 (W:w.heap[p]?=ZZ (Z4 #[v0,Z7 Z9 (-1)] 57 (0,0))) (kp:a.tmps.size=29) (e5:a.eval (Z1 5)=Z6 (ZZ ⟨p,0,Z0⟩)) (Z:a.eval (Z1 1)=Z7 Z9 nb)
 (hQ:∀ (w':ZX) (vs:List ZW) (O:ZW) (q:Nat×Nat),vs.length=16->w.heap.size<=q.1->w.heap.size<=q.2->w'.ownsRow (p+1) 61 4 O (k+1) (xs++dR nb q)->qP w' q.1 nb->tF w' q.2 nb->w'.heap[p]?=ZZ (Z4 #[O,Z7 Z9 (-1)] 57 (0,0)) ->
  aa (λj=>j=p\/v0.ownBlock=ZZ j) w w'->Q .normal (Act.putFrom a 11 vs) w'):(Code.region 4 ops true).wp ZV Q a w:=by
 subst hx;have X:p<w.heap.size:=(Tp.1 W).1;have n1:¬ (nb:Int)<0:=by omega
 have kh:∀ (i:Nat),PM.length=17:=λ_=>rfl;obtain ⟨ib,ki,k9,k8,k7⟩:=info_parts Tryz.zeroBlk;obtain ⟨ic,kj,kc,kb,ka⟩:=info_parts Tryz.infoBool1;obtain ⟨id,U,kg,kf,ke⟩:=info_parts Tryz.infoDrive;refine bZ (by kernel_rfl) GE a w (by omega) (Mf w p nb v0 xs k) (Oq w p v0) ⟨λ_ _ _ _=>rfl,Tr _,rfl,rfl,rfl⟩ ?_ ?_
 . intro i G;match i,G with
   | 0,_=>exact λo f w' D C ho m B y z l d h=>ab (ag ho ((B.slot 5 (by omega)).trans e5) w') m ⟨dJ d _,rfl,kq⟩
   | 1,_=>exact λo f w' D C ho m B y z l d h=>ab (ag ho ((B.slot 5 (by omega)).trans e5) w') m ⟨dJ d _,rfl,kq⟩
   | 2,_=>
    intro o f w' D C ho m B y z l d h;have u0:f.eval (Z1 12)=Z6 (ZZ ⟨p,0,Z0⟩):=h 1 (l 1 (by decide));exact ab (dZ ho u0 w') m ⟨dJ d _,rfl,kq⟩
   | 3,_=>
    intro o f w' D C ho m B y z l d h;have u0:f.eval (Z1 13)=Z6 (ZZ ⟨p,0,Z0⟩):=h 2 (l 2 (by decide));exact ab (v:=Z6 (ZZ ⟨p,0,Z0⟩)) (by simp only [execOp,show o.op=Op.fieldAddr 57 (Z1 13) 0 from ho,u0];go_simp) m ⟨dJ d _,rfl,kq⟩
   | 4,_=>
    intro o f w' D C ho m B y z l d h;have u0:f.eval (Z1 14)=Z6 (ZZ ⟨p,0,Z0⟩):=h 3 (l 3 (by decide));have hv:D 13=ZY:=by
     cases q:D 13 with
     | false=>rfl
     | true=>have:=(z 13 q).2 4 (by decide);rw [y] at this;cases this
    have S:D 16=ZY:=by
     cases q:D 16 with
     | false=>rfl
     | true=>have:=(z 16 q).2 4 (by decide);rw [y] at this;cases this
    have c:w'.cell? ⟨p,0,Z0⟩=ZZ v0:=by
     have:=(d.1 p X (λq=>by rw [hv] at q;cases q) (λq=>by rw [S] at q;cases q)).trans W;simp [World.cell?,this]
    exact ab (v:=v0) (by simp only [execOp,show o.op=Op.load 55 (Z1 14) from ho,u0];go_simp) m ⟨dJ d _,rfl,kq⟩
   | 5,_=>exact λo f w' D C ho m B y z l d h=>ab (ag ho ((B.slot 1 (by omega)).trans Z) w') m ⟨dJ d _,rfl,kq⟩
   | 6,_=>
    intro o f w' D C ho m B y z l d h;have u0:f.eval (Z1 16)=Z7 Z9 nb:=h 5 (l 5 (by decide));exact ab (v:=Z7 Z9 nb) (by have:=rG (P:=ZV) (s:=Z1 16) (t:=.const (Z7 Z9 0)) ho u0 rfl w';rwa [if_neg (show ¬ (0:Int)>(nb:Int) by omega)] at this) m ⟨dJ d _,rfl,kq⟩
   | 7,_=>
    intro o f w' D C ho m B y z l d h;have u0:f.eval (Z1 17)=Z7 Z9 nb:=h 6 (l 6 (by decide));have R:=run_make (P:=ZV) w' 58 255 ib (.agg (an zb)) Tryz.underlying58 ki k9 .i64 .i64 nb nb (by omega) (Int.le_refl _) (by rw [k7];omega) (by omega);rw [k8,Ty] at R;refine ab (v:=Z5 (ZZ ⟨w'.heap.size,0,Z0⟩) nb nb) (w':=w'.alloc (Z4 (madeCells (an zb) (nb*64)) 255)) (by simp [execOp,show o.op=Op.makeSlice 58 (Z1 17) (Z1 17) from ho,u0,R,Value.cells]) m ⟨pH d _ _,⟨_,d.2.1,rfl,Ks w' nb⟩,λj u A q=>?_⟩;refine lQ (λb _ J=>blk_alloc_lt _ _ _ J) j u ⟨λe=>?_,λe=>?_⟩ q
    . subst e;have:=(z 13 A).2 12 (by decide);have:=(z 12 this).2 11 (by decide);have:=(z 11 this).2 7 (by decide);rw [y] at this;cases this
    . subst e;have:=(z 16 A).2 7 (by decide);rw [y] at this;cases this
   | 8,_=>exact λo f w' D C ho m B y z l d h=>ab (ag ho ((B.slot 1 (by omega)).trans Z) w') m ⟨dJ d _,rfl,kq⟩
   | 9,_=>
    intro o f w' D C ho m B y z l d h;have u0:f.eval (Z1 19)=Z7 Z9 nb:=h 8 (l 8 (by decide));exact ab (v:=Z7 Z9 nb) (by have:=rG (P:=ZV) (s:=Z1 19) (t:=.const (Z7 Z9 0)) ho u0 rfl w';rwa [if_neg (show ¬ (0:Int)>(nb:Int) by omega)] at this) m ⟨dJ d _,rfl,kq⟩
   | 10,_=>
    intro o f w' D C ho m B y z l d h;have u0:f.eval (Z1 20)=Z7 Z9 nb:=h 9 (l 9 (by decide));have R:=run_make (P:=ZV) w' 59 4 ic (Z2 ZY) Tryz.underlying59 kj kc .i64 .i64 nb nb (by omega) (Int.le_refl _) (by rw [ka];omega) (by omega);rw [kb,Ty,Nat.mul_one] at R;refine ab (v:=Z5 (ZZ ⟨w'.heap.size,0,Z0⟩) nb nb) (w':=w'.alloc (Z4 (madeCells #[Z2 ZY] nb) 4)) (by simp [execOp,show o.op=Op.makeSlice 59 (Z1 20) (Z1 20) from ho,u0,R,Value.cells]) m ⟨pH d _ _,⟨_,d.2.1,rfl,World.rowIs_made w' (Z2 ZY) nb _⟩,λj u A q=>?_⟩;refine lQ (λb _ J=>blk_alloc_lt _ _ _ J) j u ⟨λe=>?_,λe=>?_⟩ q
    . subst e;have:=(z 13 A).2 12 (by decide);have:=(z 12 this).2 11 (by decide);have:=(z 11 this).2 10 (by decide);rw [y] at this;cases this
    . subst e;have:=(z 16 A).2 10 (by decide);rw [y] at this;cases this
   | 11,_=>
    intro o f w' D C ho m B y z l d h;obtain ⟨b1,E,u0,H⟩:Mf w p nb v0 xs k 7 (f.eval (Z1 18)) w':=h 7 (l 7 (by decide));obtain ⟨b2,F,u1,I⟩:Mf w p nb v0 xs k 10 (f.eval (Z1 21)) w':=h 10 (l 10 (by decide));exact ab (v:=.agg (dR nb (b1,b2)).toArray) (by simp only [execOp,show o.op=Op.build 61 #[(1,Z1 18),(2,Z1 21)] from ho,Tz,TA,List.map_nil,u0,u1,dR];go_simp) m ⟨dJ d _,⟨(b1,b2),E,F,rfl,H,I⟩,kq⟩
   | 12,_=>
    intro o f w' D C ho m B y z l d h;obtain ⟨q,E,F,u0,H,I⟩:Mf w p nb v0 xs k 11 (f.eval (Z1 22)) w':=h 11 (l 11 (by decide));refine ab (v:=Z5 (ZZ ⟨w'.heap.size,0,Z0⟩) 1 1) (w':=w'.alloc (Z4 (dR nb q).toArray 61)) (by simp only [execOp,show o.op=Op.buildSlice 55 1 #[(0,Z1 22)] from ho,Tz,TA,List.map_nil,u0,dR];go_simp) m ⟨pH d _ _,⟨_,q,d.2.1,E,F,rfl,blk_alloc_new _ _,H.alloc _,I.alloc _⟩,λj u A r=>?_⟩;refine lQ (λb _ J=>blk_alloc_lt _ _ _ J) j u ⟨λe=>?_,λe=>?_⟩ r
    . subst e;have:=(z 13 A).2 12 (by decide);rw [y] at this;cases this
    . subst e;have:=(z 16 A).2 12 (by decide);rw [y] at this;cases this
   | 13,_=>
    intro o f w' D C ho m hz y z l d h;have u0:f.eval (Z1 15)=v0:=h 4 (l 4 (by decide));obtain ⟨c,q,q0,E,F,u1,hc,H,I⟩:Mf w p nb v0 xs k 12 (f.eval (Z1 23)) w':=h 12 (l 12 (by decide));have S:D 16=ZY:=by
     cases q:D 16 with
     | false=>rfl
     | true=>have:=(z 16 q).2 13 (by decide);rw [y] at this;cases this
    have L:w'.ownsRow (p+1) 61 4 v0 k xs:=V.kept (row:=Z0) ⟨d.2.2.1,d.2.2.2.1,d.2.2.2.2,d.2.1,λj A _=>d.1 j A (λq=>by rw [y] at q;cases q) (λq=>by rw [S] at q;cases q)⟩ (by cases v0.ownBlock<;>simp);refine wp_append_own w' (Z1 15) (Z1 23) 55 ho (p+1) 61 id _ 4 64 Tryz.underlying55 U kg kf ke rfl (by decide) v0 k xs u0 L ⟨c,0,Z0⟩ 1 1 (dR nb q) u1 rfl (λj u A=>?_) (λu N=>?_) (by simp [maxLen];omega) (by omega) (Tq X d.2.1) ?_
    . rw [mw];simp only [World.cell?,hc];simpa using A
    . simp [dR] at N;rcases N with rfl|rfl|rfl|rfl<;>rfl
    . intro O Y kk M _;have K:∀ b,w.heap.size<=b->b<w'.heap.size->Y.heap[b]?=w'.heap[b]?:=λb J k6=>M.block b k6 (λe=>by have:=(V.lt b e.symm).2;omega);refine ⟨O,rfl,λe=>(by rw [m] at e;cases e),rp d 13 ⟨M.size,M.os,M.tape,M.output⟩ (λj A k0 _=>M.block j (Tx A d.2.1) (λe=>k0 rfl e.symm)),⟨q,E,F,kk,World.rowIs.of_block H (K _ E H.lt),World.rowIs.of_block I (K _ F I.lt)⟩,λj u A r=>lQ K j u ⟨λe=>(by subst e;rw [y] at A;cases A),λe=>(by subst e;rw [S] at A;cases A)⟩ r⟩
   | 14,_=>
    intro o f w' D C ho m B y z l d h;have u0:f.eval (Z1 11)=Z6 (ZZ ⟨p,0,Z0⟩):=h 0 (l 0 (by decide));exact ab (dZ ho u0 w') m ⟨dJ d _,rfl,kq⟩
   | 15,_=>
    intro o f w' D C ho m B y z l d h;have u0:f.eval (Z1 25)=Z6 (ZZ ⟨p,0,Z0⟩):=h 14 (l 14 (by decide));exact ab (v:=Z6 (ZZ ⟨p,0,Z0⟩)) (by simp only [execOp,show o.op=Op.fieldAddr 57 (Z1 25) 0 from ho,u0];go_simp) m ⟨dJ d _,rfl,kq⟩
   | 16,_=>
    intro o f w' D C ho m B y z l d h;have u0:f.eval (Z1 26)=Z6 (ZZ ⟨p,0,Z0⟩):=h 15 (l 15 (by decide));obtain ⟨q,E,F,L,H,I⟩:Mf w p nb v0 xs k 13 (f.eval (Z1 24)) w':=h 13 (l 13 (by decide));have T:w'.heap[p]?=ZZ (Z4 #[v0,Z7 Z9 (-1)] 57 (0,0)):=(d.1 p X (λ_ e=>by have:=(V.lt p e).1;omega) (λq=>by rw [y] at q;cases q)).trans W;obtain ⟨u,N⟩:=nM (f.eval (Z1 24));have c:w'.cell? ⟨p,0,Z0⟩=ZZ v0:=(by simp [World.cell?,T]);have fz:w'.frozen? ⟨p,0,Z0⟩=ZY:=(by simp [World.frozen?,T]);rw [N] at L;obtain ⟨so,sl,sc,km⟩:∃ so sl sc,u=.slice so sl sc:=by
     rcases L.2 with ⟨e,_⟩|⟨g,cap,cur,e,_⟩
     . exact ⟨_,_,_,e⟩
     . exact ⟨_,_,_,e⟩
    refine iQ (w':=w'.setCell ⟨p,0,Z0⟩ u) (by rw [km] at N ⊢;simp only [execOp,show o.op=Op.store 55 (Z1 26) (Z1 24) from ho,u0,N];go_simp) ⟨rp d 16 ⟨by simp [World.setCell],rfl,rfl,rfl⟩ (λj _ _ k5=>blk_setCell_other _ _ _ _ (k5 rfl)),?_,λj x A r=>?_⟩
    . refine ⟨u,q,by simp [World.setCell,Array.getElem?_modify,T],E,F,L.kept (row:=ZZ p) ⟨rfl,rfl,rfl,by simp [World.setCell],λi _ G=>blk_setCell_other _ _ _ _ (λe=>G (by rw [e]))⟩ (.inr λe=>by have:=(L.lt p e).1;omega),World.rowIs.of_block H (blk_setCell_other _ _ _ _ (by show q.1≠p;omega)),World.rowIs.of_block I (blk_setCell_other _ _ _ _ (by show q.2≠p;omega))⟩
    have K:∀ b,w.heap.size<=b->b<w'.heap.size->(w'.setCell ⟨p,0,Z0⟩ u).heap[b]?=w'.heap[b]?:=λb J _=>blk_setCell_other _ _ _ _ (by show b≠p;omega);by_cases e:j=13
    . subst e;obtain ⟨q,E,F,r1,r2,r3⟩:=r;refine ⟨q,E,F,r1.kept (row:=ZZ p) ⟨rfl,rfl,rfl,by simp [World.setCell],λi _ G=>blk_setCell_other _ _ _ _ (λe=>G (by rw [e]))⟩ (.inr λe=>by have:=(r1.lt p e).1;omega),World.rowIs.of_block r2 (K _ E r2.lt),World.rowIs.of_block r3 (K _ F r3.lt)⟩
    . exact lQ K j x ⟨e,λe=>(by subst e;rw [y] at A;cases A)⟩ r
   | n+17,hn=>exact absurd hn (by show ¬ n+17<17;omega)
 . rintro f w' hz ⟨D,hD,d⟩ h;obtain ⟨O,q,h1,h2,h3,h4,h5,h6⟩:Mf w p nb v0 xs k 16 undef w':=h 16 (by decide);have e:f=Act.putFrom a 11 ((To 16).map λi=>f.eval (.tmp (11+i))):=hz.out _ (by rw [Tm,Ts]) (by omega) (λi G=>by
    rw [Tm,Ts] at G;rw [Tt,List.getElem?_map,List.getElem?_range G];rfl)
   rw [e];refine hQ w' _ O q (by rw [Tm,Ts]) h2 h3 h4 h5 h6 h1 ⟨d.2.2.1,d.2.2.2.1,d.2.2.2.2,d.2.1,λj A hs=>d.1 j A (λ_ e=>hs (.inr e)) (λ_ e=>hs (.inl e))⟩
def Ot (w:ZX) (p nb k:Nat) (L:List (Nat×Nat)) (v:ZW) (wr:ZX):Prop:=
 L.length=k/\wr.heap[p]?=ZZ (Z4 #[v,Z7 Z9 (-1)] 57 (0,0))/\wr.ownsRow (p+1) 61 4 v k (yW nb L)/\(∀ q∈L,(p<q.1/\p<q.2)/\qP wr q.1 nb/\tF wr q.2 nb)/\(L.map (λq=>q.1)).Nodup/\(L.map (λq=>q.2)).Nodup/\Below p w wr
def R2 (w:ZX) (p nb n:Nat) (i:ZW) (wr:ZX):Prop:=∃ k L v,k<=n/\i=Z7 Z9 (k:Nat)/\Ot w p nb k L v wr
theorem EB {base:Nat} {t m:Nat} {f:Nat->ZW} (h:w.ownsRow base 61 4 v n xs) (j:w.rowIs b t m f) (l:t≠61):v.ownBlock≠ZZ b:=by
 intro e;rcases h.2 with ⟨i,_⟩|⟨g,cap,cur,d,o,a,p⟩
 . rw [i] at e;simp [Value.ownBlock] at e
 . rw [d] at e;simp [Value.ownBlock] at e;subst e;obtain ⟨c,k,_⟩:=j;rw [k] at a;simp at a;exact l a.2
theorem tG (h:l.Nodup) (a:∀ x∈l,x<b) (c:Nat) (g:b<=c):(l++[c]).Nodup:=by
 rw [List.nodup_append];refine ⟨h,by simp,λx d y f e=>?_⟩;simp at f;have:=a x d;omega
theorem Ot.next {v':ZW} {q:Nat×Nat} (h:Ot w p nb k L v wr) (z:wr.heap.size<=q.1) (A:wr.heap.size<=q.2) (ho:w'.ownsRow (p+1) 61 4 v' (k+1) (yW nb L++dR nb q))
 (B:qP w' q.1 nb) (C:tF w' q.2 nb) (u:w'.heap[p]?=ZZ (Z4 #[v',Z7 Z9 (-1)] 57 (0,0))) (b:aa (λj=>j=p\/v.ownBlock=ZZ j) wr w'):Ot w p nb (k+1) (L++[q]) v' w':=by
 obtain ⟨n,o,i,d,r,s,c⟩:=h;have F:p<wr.heap.size:=(Tp.1 o).1;have m:∀ x∈L,qP w' x.1 nb/\tF w' x.2 nb:=λx a=>by
  obtain ⟨⟨D,E⟩,f,g⟩:=d x a;refine ⟨World.rowIs.of_block f (b.block _ f.lt ?_),World.rowIs.of_block g (b.block _ g.lt ?_)⟩
  . rintro (e|e)
    . omega
    . exact EB i f (by decide) e
  . rintro (e|e)
    . omega
    . exact EB i g (by decide) e
 refine ⟨by simp [n],u,?_,λx a=>?_,?_,?_,⟨b.os.trans c.os,b.tape.trans c.tape,b.output.trans c.output,Tq c.size b.size,λj t=>(b.block j (by omega) (λe=>?_)).trans (c.block j t)⟩⟩
 . have e:yW nb (L++[q])=yW nb L++dR nb q:=(by simp [yW]);rw [e];exact ho
 . rcases List.mem_append.1 a with a|a
   . exact ⟨(d x a).1,m x a⟩
   . simp at a;subst a;exact ⟨⟨by omega,by omega⟩,B,C⟩
 . rw [TB];exact tG r (λx a=>by obtain ⟨y,l,rfl⟩:=List.mem_map.1 a;exact (d y l).2.1.lt) _ z
 . rw [TB];exact tG s (λx a=>by obtain ⟨y,l,rfl⟩:=List.mem_map.1 a;exact (d y l).2.2.lt) _ A
 . rcases e with e|e
   . omega
   . have:=(i.lt j e).1;omega
def MZ (n nb:Nat) (w:ZX) (e:Ending) (w':ZX):Prop:=e=Z3 (Z6 (ZZ ⟨w.heap.size,0,Z0⟩))/\Below w.heap.size w w' /\
 ((n=0/\∃ ao cap,w'.heap[w.heap.size]?=ZZ (Z4 #[.slice ao 0 cap,Z7 Z9 (-1)] 57 (0,0)))\/(0<n/\∃ F:bx,ay w' w.heap.size (lP n nb) F/\∀ k,F.has w.heap.size n k->w.heap.size<=k))
theorem Ba (nb:Nat):∀ (L:List (Nat×Nat)) (k:Nat),k<4*L.length->(yW nb L)[k]?=ZZ (mx (lP L.length nb) ⟨0,0,λi=>(L.getD i (0,0)).1,λi=>(L.getD i (0,0)).2⟩ k)
 | [],k,h=>absurd h (by simp)
 | q::L,k,h=>by
  simp only [List.length_cons] at h;have e:yW nb (q::L)=dR nb q++yW nb L:=by simp [yW]
  rw [e];by_cases a:k<4
  . rw [List.getElem?_append_left (by simpa [dR] using a)];match k,a with
    | 0,_=>rfl
    | 1,_=>rfl
    | 2,_=>rfl
    | 3,_=>rfl
  . rw [List.getElem?_append_right (by simp [dR];omega)];have ih:=Ba nb L (k-4) (by omega);rw [show (dR nb q).length=4 from rfl,ih];obtain ⟨j,rfl⟩:∃ j,k=j+4:=⟨k-4,by omega⟩;rw [Nat.add_sub_cancel];unfold mx;rw [show (j+4)%4=j%4 by omega,show (j+4)/4=j/4+1 by omega];rfl
theorem Bb (h:l.Nodup) {i j:Nat} (a:i<l.length) (b:j<l.length) (e:l[i]=l[j]):i=j:=(List.getElem_inj h).1 e
theorem Ot.post (h:Ot w w.heap.size nb n L v wr):MZ n nb w (Z3 (Z6 (ZZ ⟨w.heap.size,0,Z0⟩))) wr:=by
 obtain ⟨b,r,y,f,z,A,B⟩:=h;refine ⟨rfl,B,?_⟩;rcases y.2 with ⟨rfl,x⟩|⟨g,cap,cur,rfl,c,t,F,G,H,u⟩
 . exact .inl ⟨x,_,_,r⟩
 . by_cases D:n=0
   . subst D;exact .inl ⟨rfl,_,_,r⟩
   . have l:∀ i,i<n->(L.getD i (0,0))∈L:=λi a=>by
      rw [Tt,List.getElem?_eq_getElem (show i<L.length by omega)];exact List.getElem_mem _
     refine .inr ⟨by omega,⟨g,cap,λi=>(L.getD i (0,0)).1,λi=>(L.getD i (0,0)).2⟩,⟨r,⟨cur,t,λk C=>?_⟩,λi a=>?_,λi a=>?_,λi j a d=>⟨λe=>?_,λe=>?_⟩⟩,?_⟩
     . have s:k<4*L.length:=(by rw [b];exact C);have q:=Ba nb L k s;rw [<- u,List.getElem?_take_of_lt (by rw [b] at s;omega)] at q;rw [<- Array.getElem?_toList,q];unfold mx;rfl
     . refine World.rowIs.congr (f _ (l i a)).2.1 λj d=>?_;show Value.int .u8 0=Value.int .u8 ((zb.getD (j%64) 0:Nat):Int);have E:zb.getD (j%64) 0=0:=by
        unfold zb;rw [Tt,List.getElem?_replicate];split<;>rfl
       rw [E];rfl
     . exact (f _ (l i a)).2.2
     . have p:i<(L.map (λq=>q.1)).length:=(by rw [Tm,b];exact a);have c:j<(L.map (λq=>q.1)).length:=(by rw [Tm,b];exact d);refine Bb z p c ?_;have m:i<L.length:=(by rw [b];exact a);have o:j<L.length:=(by rw [b];exact d);simpa [m,o] using e
     . have p:i<(L.map (λq=>q.2)).length:=(by rw [Tm,b];exact a);have c:j<(L.map (λq=>q.2)).length:=(by rw [Tm,b];exact d);refine Bb A p c ?_;have m:i<L.length:=(by rw [b];exact a);have o:j<L.length:=(by rw [b];exact d);simpa [m,o] using e
     . rintro k (rfl|rfl|⟨i,a,rfl|rfl⟩)
       . exact Tr _
       . exact Nat.le_of_succ_le c
       . exact Nat.le_of_lt (f _ (l i a)).1.1
       . exact Nat.le_of_lt (f _ (l i a)).1.2
theorem Ou {vs:List ZW} (h:vs.length=16):∃ a b c d e f g i j k l m n o p q,vs=[a,b,c,d,e,f,g,i,j,k,l,m,n,o,p,q]:=by
 match vs,h with
 | [a,b,c,d,e,f,g,i,j,k,l,m,n,o,p,q],_=>exact ⟨_,_,_,_,_,_,_,_,_,_,_,_,_,_,_,_,rfl⟩
theorem yX (n nb:Nat) (w:ZX) (y:n<=1000) (s:nb<=1000000) :
 Calls ZV 14 #[Z7 Z9 n,Z7 Z9 nb] w λe w'=>MZ n nb w e w':=by
 go_enter Tryz.func14,Tryz.ntmps14;have c:Ot w w.heap.size nb 0 [] (Z5 Z0 0 0) (w.alloc (Z4 #[Z5 Z0 0 0,Z7 Z9 (-1)] 57)):=⟨rfl,blk_alloc_new _ _,World.ownsRow_nil _ _ _ _,λq t=>(by simp at t),by simp,by simp,bA w _⟩;go_wp2_with fail;go_loopw [9] (λi wr=>R2 w w.heap.size nb n i wr) (λi _=>n-(intOf i).toNat)
 case atStart=>exact ⟨0,[],_,Nat.zero_le _,rfl,c⟩
 case round=>
  clear c;obtain ⟨k,L,v,x,rfl,b⟩:=hrel;by_cases u:k<n
  . have a:=hide b;clear b;go_wp2_with fail;refine DG (by kernel_rfl) s (by omega) a.out.2.2.1 a.out.2.1 rfl rfl rfl ?_;intro w' A z q d j l ho m o h g;obtain ⟨B,C,D,E,F,G,H,I,J,K,M,N,O,P,Q,R,rfl⟩:=Ou d;have f:=a.out.next j l ho m o h g;have p:=hide f;clear f ho m o h g a j l d;rename_i hK
    refine hK _ _ ?_;clear hK;simp only [Act.putFrom];go_wp2;exact ⟨⟨k+1,_,_,by omega,by go_num,p.out⟩,by simp [intOf];omega⟩
  . have r:k=n:=(by omega);subst r;have a:=hide b;clear b;go_wp2;go_ret;exact a.out.post
def Ov (n nb:Nat) (w:ZX) (e:Ending) (w':ZX):Prop:=e=Z3 (Z6 (ZZ ⟨w.heap.size,0,Z0⟩))/\Below w.heap.size w w' /\
 ((n=0/\∃ ao cap,w'.heap[w.heap.size]?=ZZ (Z4 #[.slice ao 0 cap,Z7 Z9 (-1)] 57 (0,0)))\/(0<n/\∃ F:bx,aq w' w.heap.size (lP n nb) F/\∀ k,F.has w.heap.size n k->w.heap.size<=k))
theorem yY (n nb:Nat) (w:ZX) (b:n<=1000) (a:nb<=1000000) :
 Calls ZV 14 #[Z7 Z9 n,Z7 Z9 nb] w λe w'=>Ov n nb w e w':=by
 refine (yX n nb w b a).mono ?_;rintro e w' ⟨c,d,f⟩;refine ⟨c,d,f.imp_right ?_⟩;rintro ⟨g,F,h,i⟩;exact ⟨g,F,h.at (nA b a),i⟩
end
end Go.Proofs.YtfbmmcnpjhmjaaaGreatDoor
