import Derived.Test.YthcgahldacpolaaGreatDoorM11
import Derived.Test.YthcgahldacpolaaGreatDoorM03
import Derived.Lib.TrailingZeros
import Derived.Laws.BitsAllLaws
import Derived.RangeFuncNested
import Derived.RangeFuncBound
import Derived.RangeFuncLeaves
import Derived.Shelf.Abstract
import Derived.Shelf.RegionOpen
import Derived.OwnWalkIn
import Derived.TacticsInMore
import Derived.LoopNIn
import Derived.LoopIn
set_option maxRecDepth 100000
set_option maxHeartbeats 8000000
namespace Go.Proofs.YthcgahldacpolaaGreatDoor
open Go.RowKit
variable {args:Array Value} {R R':Ending→World→Prop} {b:Frame} {f:FuncId} {cs:List Frame} {k:List Item} {B x n m l:Nat} {P:Program} {w w' a:World}
section
open Gf
def tabLaid (w:World):Prop:=∀ j,j < 64→w.cell? ⟨1,j,none⟩=some (.int .u8 ((Lib.deBruijn64tab.getD j 0:Nat):Int))
theorem tabLaid.mono (h:tabLaid w) (hB:1 < B) (hb:Below B w w'):tabLaid w':=fun j hj=>(hb.cell (p:=⟨1,j,none⟩) hB).trans (h j hj)
theorem tz_key (x a:Nat) (hx:x < 18446744073709551616) (h1:x≠0) (h0:x &&& (18446744073709551616 - x)=a) :
 IntKind.u64.wrap (bits BinOp.and IntKind.u64 (x:Int) (IntKind.u64.wrap (-(x:Int)))*285870213051353865) / 288230376151711744=((a*285870213051353865 % 18446744073709551616 / 288230376151711744:Nat):Int):=by
 have e1:IntKind.u64.wrap (-(x:Int))=((18446744073709551616 - x:Nat):Int):=by rw [IntKind.wrap_u64];omega
 rw [e1,bits_and_u64_nat x _ hx (by omega),h0,IntKind.wrap_u64]
 omega
def low (x:Nat):Nat:=Lib.ctzFrom 64 x
theorem low_spec (h0:x≠0) (hx:x < 65536):∃ m,x=2^low x*(2*m+1)∧low x < 64:=Lib.ctzFrom_spec 64 x (by omega) (by omega)
theorem tz_core (x k idx:Nat) (w:World) (h1:((x:Int) == 0)=false)
 (key:IntKind.u64.wrap (bits BinOp.and IntKind.u64 (x:Int) (IntKind.u64.wrap (-(x:Int)))*285870213051353865) / 288230376151711744=(idx:Int))
 (hi:idx < 64) (hk:k < 64) (h0:w.cell? ⟨1,idx,none⟩=some (.int .u8 k)) :
 Calls Tryz.prog 84 #[.int .u64 x] w fun e w'=>e=.returned (.int .i64 k)∧w'=w:=by
 go_enter Tryz.func84,Tryz.ntmps84
 go_wp2_with (simp only [key])
 go_ret
 exact ⟨rfl,rfl⟩
theorem tz_any (x:Nat) (h0:x≠0) (hx:x < 65536) (w:World) (hT:tabLaid w) :
 Calls Tryz.prog 84 #[.int .u64 x] w fun e w'=>e=.returned (.int .i64 (low x))∧w'=w:=by
 obtain ⟨m,hm,hk⟩:=low_spec h0 hx
 have h2:x &&& (18446744073709551616 - x)=2^low x:=by
  have:=Lib.and_neg 64 (low x) m (by rw [← hm];omega)
  rw [← hm] at this;exact this
 obtain ⟨hi,h3⟩:=Lib.deBruijn64_at _ hk
 have h1:=hT _ hi
 rw [h3] at h1
 exact tz_core x _ _ w (by simp;omega) (tz_key x _ (by omega) h0 h2) hi hk h1
theorem low_and (h0:x≠0) (hx:x < 65536):x &&& (x - 1)=behindN x (low x):=by
 obtain ⟨m,hm,_⟩:=low_spec h0 hx
 generalize low x=k at hm
 have hp:0 < 2^k:=Nat.two_pow_pos k
 have h2:2^(k+1)=2*2^k:=by rw [Nat.pow_succ];omega
 have e1:x=2^(k+1)*m+2^k:=by rw [hm,h2,Nat.mul_add,Nat.mul_one,Nat.mul_comm 2 (2^k),Nat.mul_assoc]
 have e2:x - 1=2^(k+1)*m+(2^k - 1):=by omega
 apply Nat.eq_of_testBit_eq
 intro j
 rw [Nat.testBit_and,e2,behindN_bit]
 have e3:=Nat.testBit_two_pow_mul_add m (i:=k+1) (b:=2^k) (by omega) j
 have e4:=Nat.testBit_two_pow_mul_add m (i:=k+1) (b:=2^k - 1) (by omega) j
 rw [e4,e1,e3]
 by_cases hj:j < k+1
 · rw [if_pos hj,if_pos hj,Nat.testBit_two_pow,Nat.testBit_two_pow_sub_one]
   have h1:decide (k < j)=false:=by simp;omega
   rw [h1,Bool.false_and]
   by_cases e:k=j
   · simp [e]
   · simp [e]
 · rw [if_neg hj,if_neg hj]
   have h1:decide (k < j)=true:=by simp;omega
   rw [h1,Bool.true_and,Bool.and_self]
theorem low_bit (h0:x≠0) (hx:x < 65536):x.testBit (low x)=true∧∀ j,j < low x→x.testBit j=false:=by
 obtain ⟨m,hm,_⟩:=low_spec h0 hx
 generalize low x=k at hm
 have hp:0 < 2^k:=Nat.two_pow_pos k
 have h1:2^(k+1)=2*2^k:=by rw [Nat.pow_succ];omega
 have e1:x=2^(k+1)*m+2^k:=by rw [hm,h1,Nat.mul_add,Nat.mul_one,Nat.mul_comm 2 (2^k),Nat.mul_assoc]
 have e3:=fun j=>Nat.testBit_two_pow_mul_add m (i:=k+1) (b:=2^k) (by omega) j
 constructor
 · rw [e1,e3,if_pos (by omega),Nat.testBit_two_pow_self]
 · intro j hj
   rw [e1,e3,if_pos (by omega),Nat.testBit_two_pow]
   simp;omega
theorem low_lt (h0:x≠0) (hx:x < 65536):low x < 16:=by
 refine Nat.lt_of_not_le fun h=>?_
 have:=Nat.testBit_lt_two_pow (x:=x) (i:=low x) (Nat.lt_of_lt_of_le hx (Nat.pow_le_pow_right (n:=2) (by decide) h))
 rw [(low_bit h0 hx).1] at this;cases this
theorem mems_low (h0:x≠0) (hx:x < 65536):mems x=low x :: mems (behindN x (low x)):=by
 have hm:low x∈mems x:=mem_mems.2 ⟨low_lt h0 hx,(low_bit h0 hx).1⟩
 obtain ⟨pre,R,e⟩:=List.append_of_mem hm
 rw [mems_behind e]
 have hs:=mems_sorted x
 rw [e] at hs
 cases pre with
 | nil=>exact e
 | cons a pre=>
  have h1:=(List.pairwise_append.1 hs).2.2 a (by simp) (low x) (by simp)
  have h2:=(mem_mems.1 (show a∈mems x by rw [e];simp)).2
  rw [(low_bit h0 hx).2 a h1] at h2;cases h2
theorem behind_lt (x k:Nat) (hx:x < 65536):behindN x k < 65536:=by
 unfold behindN;exact Nat.lt_of_le_of_lt (Nat.div_mul_le_self _ _) hx
theorem mems_zero:mems 0=[]:=by decide
def sw1 (x:Nat):Nat:=(x / 2 &&& 6148914691236517205)+(x &&& 6148914691236517205)
def sw2 (x:Nat):Nat:=(x / 4 &&& 3689348814741910323)+(x &&& 3689348814741910323)
def sw3 (x:Nat):Nat:=(x / 16+x) &&& 1085102592571150095
def sw (x:Nat):Nat:=sw3 (sw2 (sw1 x))
def pb (b:Nat):Nat:=b % 2+b / 2 % 2+b / 4 % 2+b / 8 % 2+b / 16 % 2+b / 32 % 2+b / 64 % 2+b / 128 % 2
def tst (n:Nat):Nat→Bool
 | 0=>true
 | k+1=>(sw (n*256+k) == pb n*256+pb k) && tst n k
def tsts:Nat→Bool
 | 0=>true
 | n+1=>tst n 256 && tsts n
theorem pops:tsts 256=true:=by decide +kernel
theorem tst_at:∀ {k},tst n k=true→∀ j,j < k→sw (n*256+j)=pb n*256+pb j
 | 0,_,j,h=>absurd h (by omega)
 | k+1,h,j,hj=>by
  obtain ⟨h1,h2⟩:=Bool.and_eq_true_iff.1 h
  by_cases e:j=k
  · rw [e];exact eq_of_beq h1
  · exact tst_at h2 j (by omega)
theorem tsts_at:∀ {n},tsts n=true→∀ i,i < n→tst i 256=true
 | 0,_,i,h=>absurd h (by omega)
 | n+1,h,i,hi=>by
  obtain ⟨h1,h2⟩:=Bool.and_eq_true_iff.1 h
  by_cases e:i=n
  · rw [e];exact h1
  · exact tsts_at h2 i (by omega)
theorem sw_eq (hx:x < 65536):sw x=pb (x / 256)*256+pb (x % 256):=by
 have:=tst_at (tsts_at pops (x / 256) (by omega)) (x % 256) (by omega)
 rwa [show x / 256*256+x % 256=x by omega] at this
theorem bit_eq (x i:Nat):(if x.testBit i=true then 1 else 0)=x / 2^i % 2:=by
 rw [Nat.testBit_eq_decide_div_mod_eq]
 by_cases h:x / 2^i % 2=1
 · simp [h]
 · have:=Nat.mod_two_eq_zero_or_one (x / 2^i)
   simp [h];omega
theorem pb_lt (b:Nat):pb b≤8:=by unfold pb;omega
theorem mems_len (x:Nat):(mems x).length=pb (x / 256)+pb (x % 256):=by
 have h:∀ n,((List.range n).filter (fun i=>x.testBit i)).length=((List.range n).map (fun i=>x / 2^i % 2)).sum:=by
  intro n
  induction n with
  | zero=>rfl
  | succ n ih=>
   rw [List.range_succ,List.filter_append,List.length_append,ih,List.map_append,List.sum_append]
   have e:=bit_eq x n
   have e1:([n].map (fun i=>x / 2^i % 2)).sum=x / 2^n % 2:=by simp
   rw [e1,← e]
   by_cases e:x.testBit n=true
   · simp [e]
   · simp [e]
 unfold mems pb
 rw [h]
 have e16:List.range 16=[0,1,2,3,4,5,6,7,8,9,10,11,12,13,14,15]:=by decide
 rw [e16]
 simp only [List.map_cons,List.map_nil,List.sum_cons,List.sum_nil,Nat.reducePow,Nat.div_one]
 have h0:x % 256 % 2=x % 2:=by omega
 have h1:x % 256 / 2 % 2=x / 2 % 2:=by omega
 have h2:x % 256 / 4 % 2=x / 4 % 2:=by omega
 have h3:x % 256 / 8 % 2=x / 8 % 2:=by omega
 have h4:x % 256 / 16 % 2=x / 16 % 2:=by omega
 have h5:x % 256 / 32 % 2=x / 32 % 2:=by omega
 have h6:x % 256 / 64 % 2=x / 64 % 2:=by omega
 have h7:x % 256 / 128 % 2=x / 128 % 2:=by omega
 rw [h0,h1,h2,h3,h4,h5,h6,h7]
 clear h0 h1 h2 h3 h4 h5 h6 h7 h e16
 simp only [Nat.div_div_eq_div_mul,Nat.reduceMul]
 generalize x % 2=a0;generalize x / 2 % 2=a1;generalize x / 4 % 2=a2;generalize x / 8 % 2=a3;generalize x / 16 % 2=a4;generalize x / 32 % 2=a5;generalize x / 64 % 2=a6;generalize x / 128 % 2=a7
 generalize x / 256 % 2=b0;generalize x / 512 % 2=b1;generalize x / 1024 % 2=b2;generalize x / 2048 % 2=b3;generalize x / 4096 % 2=b4;generalize x / 8192 % 2=b5;generalize x / 16384 % 2=b6;generalize x / 32768 % 2=b7
 omega
end
section
open Gf
theorem pow_lt64 {k:Nat} (h:k < 64):2^k < 18446744073709551616:=Nat.lt_of_lt_of_le (Nat.pow_lt_pow_right (by decide) h) (Nat.le_refl _)
theorem first_key (k:Nat) (h:k≤16):IntKind.u64.wrap (IntKind.u64.wrap (2^k) - 1)=((2^k - 1:Nat):Int):=by
 have h1:=pow_lt64 (k:=k) (by omega)
 have h2:0 < 2^k:=Nat.two_pow_pos k
 have e:((2:Int)^k)=((2^k:Nat):Int):=by rw [Int.natCast_pow];rfl
 rw [e,IntKind.wrap_u64,IntKind.wrap_u64]
 omega
theorem first_any (k:Nat) (hk:k≤16) (w:World) :
 Calls Tryz.prog 80 #[.int .i64 k] w fun e w'=>e=.returned (.int .u64 ((2^k - 1:Nat):Int))∧w'=w:=by
 have key:=first_key k hk
 go_enter Tryz.func80,Tryz.ntmps80
 go_wp2
 go_ret
 exact ⟨rfl,rfl⟩
theorem and_u64 (a b:Nat) (ha:a < 18446744073709551616) (hb:b < 18446744073709551616):bits .and .u64 (a:Int) (b:Int)=((a &&& b:Nat):Int):=bits_and_u64_nat a b ha hb
theorem k1 (x:Nat) (hx:x < 65536):IntKind.u64.wrap (bits .and .u64 ((x:Int) / 2) 6148914691236517205+bits .and .u64 (x:Int) 6148914691236517205)=((sw1 x:Nat):Int)∧sw1 x < 131072:=by
 have e:(x:Int) / 2=((x / 2:Nat):Int):=by omega
 have h1:=and_u64 (x / 2) 6148914691236517205 (by omega) (by decide)
 have h2:=and_u64 x 6148914691236517205 (by omega) (by decide)
 have b1:=Nat.and_le_left (n:=x / 2) (m:=6148914691236517205)
 have b2:=Nat.and_le_left (n:=x) (m:=6148914691236517205)
 unfold sw1
 rw [e]
 refine ⟨?_,by omega⟩
 have h0:bits .and .u64 ((x / 2:Nat):Int) 6148914691236517205=((x / 2 &&& 6148914691236517205:Nat):Int):=h1
 have h3:bits .and .u64 (x:Int) 6148914691236517205=((x &&& 6148914691236517205:Nat):Int):=h2
 rw [h0,h3,IntKind.wrap_u64]
 generalize (x / 2 &&& 6148914691236517205)=a at *
 generalize (x &&& 6148914691236517205)=b at *
 omega
theorem k2 (x:Nat) (hx:x < 131072):IntKind.u64.wrap (bits .and .u64 ((x:Int) / 4) 3689348814741910323+bits .and .u64 (x:Int) 3689348814741910323)=((sw2 x:Nat):Int)∧sw2 x < 262144:=by
 have e:(x:Int) / 4=((x / 4:Nat):Int):=by omega
 have h1:=and_u64 (x / 4) 3689348814741910323 (by omega) (by decide)
 have h2:=and_u64 x 3689348814741910323 (by omega) (by decide)
 have b1:=Nat.and_le_left (n:=x / 4) (m:=3689348814741910323)
 have b2:=Nat.and_le_left (n:=x) (m:=3689348814741910323)
 unfold sw2
 rw [e]
 refine ⟨?_,by omega⟩
 have h0:bits .and .u64 ((x / 4:Nat):Int) 3689348814741910323=((x / 4 &&& 3689348814741910323:Nat):Int):=h1
 have h3:bits .and .u64 (x:Int) 3689348814741910323=((x &&& 3689348814741910323:Nat):Int):=h2
 rw [h0,h3,IntKind.wrap_u64]
 generalize (x / 4 &&& 3689348814741910323)=a at *
 generalize (x &&& 3689348814741910323)=b at *
 omega
theorem k3 (x:Nat) (hx:x < 262144):bits .and .u64 (IntKind.u64.wrap ((x:Int) / 16+(x:Int))) 1085102592571150095=((sw3 x:Nat):Int):=by
 have e:IntKind.u64.wrap ((x:Int) / 16+(x:Int))=((x / 16+x:Nat):Int):=by rw [IntKind.wrap_u64];omega
 rw [e]
 exact and_u64 (x / 16+x) 1085102592571150095 (by omega) (by decide)
theorem k4 (x c:Nat) (hx:x < 1048576):IntKind.u64.wrap ((x:Int)+(x:Int) / (c:Int))=((x+x / c:Nat):Int):=by
 have:=Nat.div_le_self x c
 have e:(x:Int) / (c:Int)=((x / c:Nat):Int):=(Int.natCast_ediv x c).symm
 rw [IntKind.wrap_u64,e]
 generalize x / c=d at *
 omega
theorem and127 (x:Nat):x &&& 127=x % 128:=Nat.and_two_pow_sub_one_eq_mod x 7
theorem ones_any (x:Nat) (hx:x < 65536) (w:World) :
 Calls Tryz.prog 168 #[.int .u64 x] w fun e w'=>e=.returned (.int .i64 ((mems x).length:Nat))∧w'=w:=by
 obtain ⟨a1,b1⟩:=k1 x hx
 obtain ⟨a2,b2⟩:=k2 _ b1
 have a3:=k3 _ b2
 have hs:=sw_eq hx
 have p1:=pb_lt (x / 256)
 have p2:=pb_lt (x % 256)
 have h0:=mems_len x
 have e:sw3 (sw2 (sw1 x))=pb (x / 256)*256+pb (x % 256):=hs
 generalize pb (x / 256)=p at *
 generalize pb (x % 256)=q at *
 have a4:=k4 (p*256+q) 256 (by omega)
 have e4:p*256+q+(p*256+q) / 256=p*257+q:=by omega
 have a5:=k4 (p*257+q) 65536 (by omega)
 have e5:p*257+q+(p*257+q) / 65536=p*257+q:=by rw [Nat.div_eq_of_lt (by omega),Nat.add_zero]
 have a6:=k4 (p*257+q) 4294967296 (by omega)
 have e6:p*257+q+(p*257+q) / 4294967296=p*257+q:=by rw [Nat.div_eq_of_lt (by omega),Nat.add_zero]
 rw [e4] at a4
 rw [e5] at a5
 rw [e6] at a6
 have a7:=i64_and (p*257+q) 127 (by omega) (by decide)
 rw [and127,show (p*257+q) % 128=p+q by omega,← h0] at a7
 have a8:wrap64 ((p*257+q:Nat):Int)=((p*257+q:Nat):Int):=by unfold wrap64;omega
 rw [e] at a3
 clear e hs h0 e4 e5 e6
 have H:=hide8 a1 a2 a3 a4 a5 a6 a7 a8
 clear a1 a2 a3 a4 a5 a6 a7 a8
 go_enter Tryz.func168,Tryz.ntmps168
 go_wp2
 obtain ⟨a1,a2,a3,a4,a5,a6,a7,a8⟩:=H.out
 simp only [a1]
 simp only [a2]
 simp only [a3]
 have a4':IntKind.u64.wrap (((p*256+q:Nat):Int)+((p*256+q:Nat):Int) / 256)=((p*257+q:Nat):Int):=a4
 have a5':IntKind.u64.wrap (((p*257+q:Nat):Int)+((p*257+q:Nat):Int) / 65536)=((p*257+q:Nat):Int):=a5
 have a6':IntKind.u64.wrap (((p*257+q:Nat):Int)+((p*257+q:Nat):Int) / 4294967296)=((p*257+q:Nat):Int):=a6
 have a7':bits .and .i64 ((p*257+q:Nat):Int) 127=(((mems x).length:Nat):Int):=a7
 simp only [a4',a5',a6',a8,a7']
 go_ret
 exact ⟨rfl,rfl⟩
theorem size_any (x:Nat) (hx:x < 65536) (w:World) :
 Calls Tryz.prog 162 #[.int .u64 x] w fun e w'=>e=.returned (.int .i64 ((mems x).length:Nat))∧w'=w:=by
 go_enter Tryz.func162,Tryz.ntmps162
 go_wp2_with fail
 refine (ones_any x hx _).mono ?_
 rintro e w' ⟨rfl,rfl⟩
 go_wp2
 go_ret
 exact ⟨rfl,rfl⟩
theorem behind_key (x k:Nat) (hx:x < 65536) (hk:k≤16):bits .andNot .u64 (x:Int) ((2^k - 1:Nat):Int)=((x / 2^k*2^k:Nat):Int):=by
 have h1:=pow_lt64 (k:=k) (by omega)
 have h2:0 < 2^k:=Nat.two_pow_pos k
 have h:=u64_andNot_nat x (2^k - 1) (by omega) (by omega)
 rw [h]
 congr 1
 apply Nat.eq_of_testBit_eq
 intro j
 rw [Nat.testBit_and,Nat.testBit_mul_two_pow,show 18446744073709551615 - (2^k - 1)=2^64 - (2^k - 1+1) by omega,Nat.testBit_two_pow_sub_succ (by omega),Nat.testBit_two_pow_sub_one,Nat.testBit_div_two_pow]
 by_cases hj:k≤j
 · rw [show j - k+k=j by omega]
   by_cases h0:j < 64
   · simp [hj,h0,show ¬ j < k by omega]
   · have:x.testBit j=false:=Nat.testBit_lt_two_pow (Nat.lt_of_lt_of_le hx (Nat.pow_le_pow_right (n:=2) (i:=16) (by decide) (by omega)))
     simp [this]
 · simp [hj,show j < k by omega]
theorem behind_any (x k:Nat) (hx:x < 65536) (hk:k < 16) (w:World) :
 Calls Tryz.prog 172 #[.int .u64 x,.int .i64 k] w fun e w'=>e=.returned (.int .u64 (behindN x k:Nat))∧w'=w:=by
 have key:=behind_key x (k+1) hx (by omega)
 have hw:wrap64 ((k:Int)+1)=((k+1:Nat):Int):=by unfold wrap64;omega
 have h0:IntKind.i64.wrap ((k:Int)+1)=((k+1:Nat):Int):=by rw [IntKind.wrap_i64];omega
 have H:=hide key
 clear key
 go_enter Tryz.func172,Tryz.ntmps172
 go_wp2_with fail
 refine (first_any (k+1) (by omega) _).mono ?_
 rintro e w' ⟨rfl,rfl⟩
 go_wp2
 rw [H.out]
 go_ret
 exact ⟨rfl,rfl⟩
end
section
open Go.Shelf
structure Above (B:Nat) (w w':World):Prop where
 os:w'.os=w.os
 tape:w'.tape=w.tape
 output:w'.output=w.output
 size:w.heap.size≤w'.heap.size
 block:∀ k,B≤k→k < w.heap.size→w'.heap[k]?=w.heap[k]?
theorem Above.refl (B:Nat) (w:World):Above B w w:=⟨rfl,rfl,rfl,Nat.le_refl _,fun _ _ _=>rfl⟩
theorem Above.trans {b c:World} (h:Above B a b) (k:Above B b c):Above B a c:=
 ⟨k.os.trans h.os,k.tape.trans h.tape,k.output.trans h.output,Nat.le_trans h.size k.size,fun i h1 h2=>(k.block i h1 (by have:=h.size;omega)).trans (h.block i h1 h2)⟩
theorem Above.mono {B':Nat} (h:Above B w w') (hB:B≤B'):Above B' w w':=⟨h.os,h.tape,h.output,h.size,fun k h1 h2=>h.block k (by omega) h2⟩
theorem Above.of_below (h:Below w.heap.size w w'):Above B w w':=⟨h.os,h.tape,h.output,h.size,fun k _ h2=>h.block k h2⟩
theorem Above.setCell (h:Above B a w) {p:Addr} (hp:p.block < B∨a.heap.size≤p.block) (u:Value):Above B a (w.setCell p u):=
 ⟨h.os,h.tape,h.output,by have:=h.size;simpa [World.setCell] using this,fun k h1 h2=>(Below.heap_setCell _ _ _ _ (by omega)).trans (h.block k h1 h2)⟩
theorem Above.putObj (h:Above B a w) {l:Nat} (hp:l < B∨a.heap.size≤l) (o:Obj):Above B a (w.putObj l o):=
 ⟨h.os,h.tape,h.output,by have:=h.size;have:=(grownBy_putObj' w l o).size;omega,fun k h1 h2=>(World.putObj_heap_other (by omega)).trans (h.block k h1 h2)⟩
theorem Below.putObj' (h:Below B a w) {l:Nat} (hp:B≤l) (hl:l < w.heap.size) (o:Obj):Below B a (w.putObj l o):=
 h.grown (grownBy_putObj' w l o) (by omega) (fun k e=>by cases e;exact hp)
theorem Above.keeps {C:Nat} (h:Above B w w') (hB:B≤C):KeepsFrom C w w':=
 ⟨h.size,fun k o h1 h2 _=>(h.block k (by omega) (Array.getElem?_eq_some_iff.1 h2).1).trans h2⟩
theorem at_wide (h:Calls P f args w R) (k:∀ e w',R e w'→R' e w') :
 Fence.wide.fn f∧(Fence.wide.depth.isSome=true→1≤n)∧CallsIn Fence.wide m P f args w R':=
 ⟨trivial,fun h=>(by cases h),callsIn_wide.2 (h.mono k)⟩
theorem at_round (h:Calls P f args w R) (k:∀ e w',R e w'→R' e w') :
 (Fence.wide.inRound l).fn f∧((Fence.wide.inRound l).depth.isSome=true→1≤n)∧CallsIn (Fence.wide.inRound l) m P f args w R':=
 ⟨trivial,fun h=>(by cases h),CallsIn.inRound l (callsIn_wide.2 (h.mono k))⟩
def noJump (Q:Exit→Act→World→Prop):Exit→Act→World→Prop
 | .goto _,_,_=>False
 | .exit _,_,_=>False
 | e,a,w=>Q e a w
theorem stepR_scope' {a:Act} {c:Code}:step P (lone (b.atR a (.code (.scope c) :: k)) cs w)=.next (lone (b.atR a (.code c :: .inScope c :: k)) cs w):=
 step_lone_go (by simp [stepG,stepG.exec,Frame.atR])
theorem stepR_inScope' {a:Act} {c:Code}:step P (lone (b.atR a (.inScope c :: k)) cs w)=.next (lone (b.atR a k) cs w):=
 step_lone_go (by simp [stepG,stepG.exec,Frame.atR])
theorem in_scope {F:Fence} {c:Code} {Q:Exit→Act→World→Prop} {a:Act} (h:c.wpIn F n P (noJump Q) a w):(Code.scope c).wpIn F n P Q a w:=by
 intro b k cs h2 hb hr
 have h0:(lone (b.atR a (.code (.scope c) :: k)) cs w).fenced P F:=fenced_calm hb hr rfl
 obtain ⟨e,a₁,w₁,hq,h1⟩:=h b (.inScope c :: k) cs h2 hb hr
 cases e with
 | normal=>exact ⟨.normal,a₁,w₁,hq,.head h0 stepR_scope' (StepsIn.trans h1 (.one (fenced_calm hb hr rfl) stepR_inScope'))⟩
 | exit id=>exact hq.elim
 | goto l=>exact hq.elim
 | ret=>exact ⟨_,a₁,w₁,hq,.of_steps (.one h0 stepR_scope') h1⟩
 | panic ch=>exact ⟨_,a₁,w₁,hq,.of_steps (.one h0 stepR_scope') h1⟩
 | outgrown=>exact ⟨_,a₁,w₁,hq,.of_steps (.one h0 stepR_scope') h1⟩
def lkPost {σ:Type} (B:Nat) (I:σ→World→Prop) (s:σ) (W:World):Exit→Act→World→Prop
 | .normal,_,W'=>I s W'∧Above B W W'
 | _,_,_=>False
theorem room_none (k:Nat):Fence.wide.room k:=fun d h=>by cases h
theorem round_any {m':Nat} {tmps:Array Value} {assign body:Code} (h:RoundIn Fence.wide m P l f tmps assign body w R):RoundIn Fence.wide m' P l f tmps assign body w R:=⟨h.1,fun c cs _=>h.2 c cs (room_none _)⟩
theorem range_lk (m:Nat) {α σ:Type} {g:Operand} {ps:Array Tmp} {assign body:Code} {Q:Exit→Act→World→Prop} {a:Act} {w:World}
 {gf:Nat} {lb:Array Value} (hg:a.eval g=.func (.func gf) #[] lb) (eg:∀ args w,(callFunc gf args).run P w=.ok (.enter gf args) w)
 {encs:α→Array Value} (hs:∀ x,(encs x).size=ps.size) (step:σ→α→σ) (Ok:α→Prop)
 (I:σ→World→Prop) (hI:∀ s A B,I s A→Below w.heap.size A B→I s B) (S:σ→Prop) (s0:σ)
 (h4:∀ (l:Nat) (J:σ→World→Prop) (W:World),Below w.heap.size w W→W.heap.size=w.heap.size+2 →
  (∀ s A B,J s A→Below (w.heap.size+2) A B→J s B)→(∀ s A,J s A→I s A∧w.heap.size+2≤A.heap.size) →
  (∀ m s x W1,J s W1→Ok x→YieldAt Fence.wide m P l (encs x) W1 fun e W'=>e=.returned (.bool true)∧J (step s x) W'∧Above (w.heap.size+2) W1 W')→J s0 W →
  CallsIn Fence.wide (n - 1) P gf (#[.func (.yield l) #[] #[]] ++ lb) W fun e W'=>(∃ v,e=.returned v)∧∃ s,S s∧J s W')
 (h0:I s0 w) (Ax:Nat→α→Act→World→Prop) (hx:∀ B x a' A A',Ax B x a' A→Above B A A'→Ax B x a' A')
 (h1:∀ (l:Nat) (s:σ) (x:α) (W:World) (K:Act→World→Prop),I s W→Ok x→(∀ a' W',Below W.heap.size W W'→Ax W.heap.size x a' W'→K a' W') →
  assign.wpIn (Fence.wide.inRound l) m P (Exit.then K (fun _ _ _=>False)) { tmps:=(ps.zip (encs x)).foldl (fun t (p,v)=>t.setIfInBounds p v) a.tmps,defers:=[] } W)
 (h5:∀ (l B:Nat) (s:σ) (x:α) (a':Act) (W:World),w.heap.size≤l→l < B→B≤W.heap.size→(∃ r,W.heap[l]?=some (.loop r))→I s W→Ok x→Ax B x a' W→body.wpIn (Fence.wide.inRound l) m P (lkPost w.heap.size I (step s x) W) a' W)
 (h6:∀ (D:Nat) (s:σ) (W:World),w.heap.size≤D→S s→I s W→W.heap[D]?=some (.deferred (some []))→Q .normal { a with defers:={ target:=.collected D,args:=#[] } :: a.defers } W) :
 (Code.rangeFunc g ps assign body).wpIn Fence.wide n P Q a w:=by
 refine wpIn_rangeFunc fun fn hz=>?_
 obtain ⟨rc,h2⟩:∃ rc:LoopState→Loop,rc=fun st=>{ state:=st,pending:=none,fn,tmps:=a.tmps,params:=ps,assign,body,defers:=w.heap.size }:=⟨_,rfl⟩
 obtain ⟨W1,h7⟩:∃ W1,(w.alloc (.deferred (some []))).alloc (.loop (rc .ready))=W1:=⟨_,rfl⟩
 have hh:Below w.heap.size w W1:=by rw [← h7];exact ((Below.refl _ w).alloc (Nat.le_refl _) _).alloc (by simp) _
 have k0:W1.heap.size=w.heap.size+2:=by rw [← h7];simp
 have k5:W1.heap[w.heap.size+1]?=some (.loop (rc .ready)):=by
  rw [← h7];have:=World.alloc_heap_new (w.alloc (.deferred (some []))) (.loop (rc .ready));rwa [World.size_alloc] at this
 have k6:W1.heap[w.heap.size]?=some (.deferred (some [])):=by
  rw [← h7];exact (Below.heap_alloc _ _ _ (by simp)).trans (World.alloc_heap_new w _)
 refine ⟨w.heap.size+1,[{ target:=.collected w.heap.size,args:=#[] }],W1,{ target:=.fn (.func gf) lb,args:=#[.func (.yield (w.heap.size+1)) #[] #[]] },W1,gf,
  #[.func (.yield (w.heap.size+1)) #[] #[]] ++ lb,W1,?_,?_,fun _ _=>trivial,?_,fun h=>(by cases h),?_⟩
 · rw [← h7,h2];exact run_enterLoop_outer _ _ _ _ _
 · simp only [resolve,hg];simp [go_sem]
 · simp [invoke,go_sem,eg]
 refine (h4 (w.heap.size+1) (fun s W=>I s W∧W.heap[w.heap.size+1]?=some (.loop (rc .ready))∧W.heap[w.heap.size]?=some (.deferred (some []))) W1 hh k0 ?_ ?_ ?_ ⟨hI _ _ _ h0 hh,k5,k6⟩).mono ?_
 · rintro s A B ⟨hi,hl,hd⟩ hb
   exact ⟨hI _ _ _ hi (hb.mono (by omega)),(hb.block _ (by omega)).trans hl,(hb.block _ (by omega)).trans hd⟩
 · rintro s A ⟨hi,hl,_⟩
   exact ⟨hi,(Array.getElem?_eq_some_iff.1 hl).1⟩
 ·
  rintro m' s x W ⟨hi,hl,hd⟩ hj
  have h8:w.heap.size+1 < W.heap.size:=(Array.getElem?_eq_some_iff.1 hl).1
  have hy:=run_yield (P:=P) (args:=encs x) hl (by rw [h2];exact hs x)
  rw [h2] at hy
  refine ⟨fn,_,assign,body,hy,round_any (roundIn_of_wpIn (n:=m) hz (h1 _ s x W _ hi hj ?_))⟩
  clear hy
  intro a' Wa hc k7
  have hk:=(hc.block _ h8).trans hl
  have k8:=(hc.block _ (by omega)).trans hd
  have h9:w.heap.size+1 < Wa.heap.size:=(Array.getElem?_eq_some_iff.1 hk).1
  refine ⟨_,run_beginRound hk (by rw [h2]),?_⟩
  obtain ⟨Wb,h3⟩:∃ Wb,Wa.putObj (w.heap.size+1) (.loop { rc .ready with state:=.busy })=Wb:=⟨_,rfl⟩
  have k9:Below w.heap.size Wa Wb:=by rw [← h3];exact Below.putObj' (Below.refl _ _) (by omega) h9 _
  have hm:Above (w.heap.size+2) W Wb:=by
   rw [← h3];exact ((Above.of_below hc).trans ((Above.refl _ Wa).putObj (.inl (by omega)) _))
  have he:Wb.heap[w.heap.size+1]?=some (.loop { rc .ready with state:=.busy }):=by rw [← h3];exact World.putObj_heap_same h9
  have hn:Wb.heap[w.heap.size]?=some (.deferred (some [])):=by rw [← h3];exact (World.putObj_heap_other (by omega)).trans k8
  rw [h3]
  refine wpIn_mono (h5 _ W.heap.size s x a' Wb (by omega) h8 hm.size ⟨_,he⟩ (hI _ _ _ (hI _ _ _ hi (hc.mono (by omega))) k9) hj (hx _ _ _ _ _ k7 (by rw [← h3];exact (Above.refl _ Wa).putObj (.inl h8) _))) ?_
  rintro e a3 W3 hp
  cases e with
  | normal=>
   obtain ⟨ka,hf⟩:=hp
   have hq:=(hf.block _ (by omega) (Array.getElem?_eq_some_iff.1 he).1).trans he
   have kb:=(hf.block _ (Nat.le_refl _) (Array.getElem?_eq_some_iff.1 hn).1).trans hn
   have ha:=(Array.getElem?_eq_some_iff.1 hq).1
   have hr:=run_endRound (P:=P) none hq
   refine ⟨_,_,hr,rfl,⟨hI _ _ _ ka (Below.putObj' (Below.refl _ _) (by omega) ha _),?_,(World.putObj_heap_other (by omega)).trans kb⟩,?_⟩
   · rw [World.putObj_heap_same ha,h2];rfl
   · exact (hm.trans (hf.mono (by omega))).putObj (.inl (by omega)) _
  | ret=>exact hp.elim
  | exit id=>exact hp.elim
  | goto t=>exact hp.elim
  | panic ch=>exact hp.elim
  | outgrown=>exact hp.elim
 ·
  rintro e W2 ⟨⟨v,rfl⟩,s,hS,hi,hl,hd⟩
  have h8:=(Array.getElem?_eq_some_iff.1 hl).1
  refine ⟨none,_,by have:=run_endLoop (P:=P) hl (by rw [h2];simp);rw [h2] at this;exact this,?_⟩
  exact h6 _ s _ (Nat.le_refl _) hS (hI _ _ _ hi (Below.putObj' (Below.refl _ _) (by omega) h8 _)) ((World.putObj_heap_other (by omega)).trans hd)
end
section
open Go.Shelf Gf
attribute [local go_sem] Oper.semAt_some
theorem behind_small {q:Nat} (h0:q≠0) (hq:q < 65536):behindN q (low q) < q:=by
 refine Nat.lt_of_le_of_ne (Nat.div_mul_le_self _ _) fun e=>?_
 have h1:=behindN_bit q (low q) (low q)
 rw [e,(low_bit h0 hq).1] at h1
 simp at h1
abbrev Sh:={ x:Nat // x < 16 }
def encSh (x:Sh):Array Value:=#[.int .i64 (x.1:Int)]
def shs (s:Nat):List Sh:=(mems s).filterMap (fun i=>if h:i < 16 then some ⟨i,h⟩ else none)
theorem shs_val (s:Nat):(shs s).map (·.1)=mems s:=by
 unfold shs
 have h:∀ L:List Nat,(∀ i∈L,i < 16)→(L.filterMap (fun i=>if h:i < 16 then some (⟨i,h⟩:Sh) else none)).map (·.1)=L:=by
  intro L
  induction L with
  | nil=>intro _;rfl
  | cons a L ih=>
   intro hL
   have ha:=hL a List.mem_cons_self
   rw [List.filterMap_cons_some (b:=(⟨a,ha⟩:Sh)) (by simp [ha]),List.map_cons,ih (fun i hi=>hL i (List.mem_cons_of_mem _ hi))]
 exact h _ (fun i hi=>(mem_mems.1 hi).1)
theorem members_any (s:Nat) (w:World) :
 Calls Tryz.prog 66 #[.int .u64 s] w fun e w'=>e=.returned (.func (.func 83) #[] #[.pointer (some ⟨w.heap.size,0,none⟩)])∧w'=w.alloc (.cells #[.int .u64 s] 101):=by
 go_enter Tryz.func66,Tryz.ntmps66
 go_wp2
 go_ret
 exact ⟨rfl,rfl⟩
theorem members1_in (n:Nat) (l Bs s:Nat) (hs:s < 65536) (J Jx:List Sh→World→Prop)
 (hY:∀ pre x W,J pre W→pre.length < (mems s).length→YieldAt Fence.wide (n - 1) Tryz.prog l (encSh x) W fun e W'=>
  (e=.returned (.bool true)∧J (pre ++ [x]) W'∧(tabLaid W→tabLaid W'))∨(e=.returned (.bool false)∧Jx (pre ++ [x]) W'))
 (W:World) (hB:W.cell? ⟨Bs,0,none⟩=some (.int .u64 s)) (hT:tabLaid W) (h0:J [] W) :
 CallsIn Fence.wide n Tryz.prog 83 #[.func (.yield l) #[] #[],.pointer (some ⟨Bs,0,none⟩)] W fun e W'=>(∃ v,e=.returned v) ∧
  ((∃ ys,ys.map (·.1)=mems s∧J ys W')∨(∃ pre,pre.map (·.1) <+: mems s∧Jx pre W')):=by
 refine callsIn_of_wp Tryz.func83 rfl trivial ?_ rfl
 simp only [Tryz.ntmps83,List.size_toArray,List.length_cons,List.length_nil,Nat.reduceAdd,Nat.reduceSub,Array.replicate_succ,Array.replicate_zero,List.push_toArray,List.append_toArray,List.nil_append,List.cons_append]
 gi_wp2
 gi_loopw [3] (fun p wr=>∃ (pre:List Sh) (q:Nat),p=.int .u64 q∧q < 65536∧mems s=pre.map (·.1) ++ mems q∧J pre wr∧tabLaid wr)
  (fun p _=>(intOf p).toNat)
 case atStart=>
  exact ⟨[],s,rfl,hs,rfl,h0,hT⟩
 case round=>
  obtain ⟨pre,q,rfl,hq,hx,h4,h5⟩:=hrel
  by_cases h1:q=0
  · subst h1
    gi_wp2
    go_end0
    exact ⟨⟨_,rfl⟩,.inl ⟨pre,by rw [hx,mems_zero,List.append_nil],h4⟩⟩
  · have h8:((q:Int) != 0)=true:=by simp;omega
    have h2:=low_lt h1 hq
    obtain ⟨fn,tmps,assign,body,hy,hR⟩:=hY pre ⟨low q,h2⟩ wr h4 (by rw [hx,mems_low h1 hq];simp)
    unfold encSh at hy
    gi_wp2
    refine at_wide (tz_any q h1 hq wr h5) ?_
    rintro e w' ⟨rfl,rfl⟩
    gi_wp2
    refine ⟨fun h=>(by cases h),hR.mono ?_⟩
    rintro e W3 (⟨rfl,h6,h7⟩ | ⟨rfl,h3⟩)
    · have hw:IntKind.u64.wrap ((q:Int) - 1)=((q - 1:Nat):Int):=by rw [IntKind.wrap_u64];omega
      have ha:=and_u64 q (q - 1) (by omega) (by omega)
      rw [low_and h1 hq] at ha
      gi_wp2
      go_roundw
      case rel=>exact ⟨pre ++ [⟨low q,h2⟩],behindN q (low q),rfl,behind_lt _ _ hq,by rw [hx,mems_low h1 hq];simp,h6,h7 h5⟩
      case measure=>have:=behind_small h1 hq;simp only [intOf];omega
    · gi_wp2
      refine bodyPost_ret (results_none rfl _ _ _) rfl ?_
      exact ⟨⟨_,rfl⟩,.inr ⟨pre ++ [⟨low q,h2⟩],by rw [hx,mems_low h1 hq];simp,h3⟩⟩
def KpT (W W':World):Prop:=tabLaid W→tabLaid W'
theorem kpT_t {A B C:World} (h:KpT A B) (k:KpT B C):KpT A C:=fun x=>k (h x)
theorem kpT_b (hw:3≤w.heap.size) (W:World) (l:Nat) (o o':Obj) (hl:w.heap.size≤l) (h:W.heap[l]?=some o) (_:o.isCells=false) (_:o.isWalk=false):KpT W (W.putObj l o'):=fun hT=>
 hT.mono (B:=3) (by decide) (Below.putObj' (Below.refl _ W) (by omega) (Array.getElem?_eq_some_iff.1 h).1 _)
theorem KpT.of_below {W W':World} (hB:3≤B) (h:Below B W W'):KpT W W':=fun hT=>hT.mono (by omega) h
theorem KpT.refl (W:World):KpT W W:=fun h=>h
theorem members_stops (n Bs s:Nat) (hs:s < 65536) (w:World) (hB:Bs < w.heap.size) (hc:w.cell? ⟨Bs,0,none⟩=some (.int .u64 s)) (h2:3≤w.heap.size) (hT:tabLaid w) :
 SeqStopsK Fence.wide n Tryz.prog 83 #[.pointer (some ⟨Bs,0,none⟩)] encSh KpT (fun ys=>ys.map (·.1)=mems s) (fun pre=>pre.map (·.1) <+: mems s) (mems s).length w:=fun l J Jx W hW _ _ hY h0=>
 members1_in n l Bs s hs J Jx hY W ((hW.cell (p:=⟨Bs,0,none⟩) hB).trans hc) (hT.mono (by omega) hW) h0
end
section
open Go.Shelf Gf
attribute [local go_sem] Oper.semAt_some
abbrev Mb (s:Nat):={ x:Nat // x < 16∧s.testBit x=true }
def encMb {s:Nat} (x:Mb s):Array Value:=#[.int .i64 (x.1:Int)]
def preM {s:Nat} (pre:List (Mb s)):List Nat:=pre.map (·.1)
theorem preM_snoc {s:Nat} (pre:List (Mb s)) (x:Mb s):preM (pre ++ [x])=preM pre ++ [x.1]:=by unfold preM;simp
theorem mems_all (h:n≤16):mems (2^n - 1)=List.range n:=by
 have:∀ k:Fin 17,mems (2^k.1 - 1)=List.range k.1:=by decide
 exact this ⟨n,by omega⟩
theorem members1_mb (n:Nat) (l Bs s:Nat) (hs:s < 65536) (J Jx:List (Mb s)→World→Prop)
 (hY:∀ pre x W,J pre W→pre.length < (mems s).length→YieldAt Fence.wide (n - 1) Tryz.prog l (encMb x) W fun e W'=>
  (e=.returned (.bool true)∧J (pre ++ [x]) W'∧(tabLaid W→tabLaid W'))∨(e=.returned (.bool false)∧Jx (pre ++ [x]) W'))
 (W:World) (hB:W.cell? ⟨Bs,0,none⟩=some (.int .u64 s)) (hT:tabLaid W) (h0:J [] W) :
 CallsIn Fence.wide n Tryz.prog 83 #[.func (.yield l) #[] #[],.pointer (some ⟨Bs,0,none⟩)] W fun e W'=>(∃ v,e=.returned v) ∧
  ((∃ ys,ys.map (·.1)=mems s∧J ys W')∨(∃ pre,pre.map (·.1) <+: mems s∧Jx pre W')):=by
 refine callsIn_of_wp Tryz.func83 rfl trivial ?_ rfl
 simp only [Tryz.ntmps83,List.size_toArray,List.length_cons,List.length_nil,Nat.reduceAdd,Nat.reduceSub,Array.replicate_succ,Array.replicate_zero,List.push_toArray,List.append_toArray,List.nil_append,List.cons_append]
 gi_wp2
 gi_loopw [3] (fun p wr=>∃ (pre:List (Mb s)) (q:Nat),p=.int .u64 q∧q < 65536∧mems s=pre.map (·.1) ++ mems q∧J pre wr∧tabLaid wr)
  (fun p _=>(intOf p).toNat)
 case atStart=>
  exact ⟨[],s,rfl,hs,rfl,h0,hT⟩
 case round=>
  obtain ⟨pre,q,rfl,hq,hx,h4,h5⟩:=hrel
  by_cases h1:q=0
  · subst h1
    gi_wp2
    go_end0
    exact ⟨⟨_,rfl⟩,.inl ⟨pre,by rw [hx,mems_zero,List.append_nil],h4⟩⟩
  · have h8:((q:Int) != 0)=true:=by simp;omega
    have h9:=low_lt h1 hq
    have h2:low q < 16∧s.testBit (low q)=true:=mem_mems.1 (by rw [hx,mems_low h1 hq];simp)
    obtain ⟨fn,tmps,assign,body,hy,hR⟩:=hY pre ⟨low q,h2⟩ wr h4 (by rw [hx,mems_low h1 hq];simp)
    unfold encMb at hy
    gi_wp2
    refine at_wide (tz_any q h1 hq wr h5) ?_
    rintro e w' ⟨rfl,rfl⟩
    gi_wp2
    refine ⟨fun h=>(by cases h),hR.mono ?_⟩
    rintro e W3 (⟨rfl,h6,h7⟩ | ⟨rfl,h3⟩)
    · have hw:IntKind.u64.wrap ((q:Int) - 1)=((q - 1:Nat):Int):=by rw [IntKind.wrap_u64];omega
      have ha:=and_u64 q (q - 1) (by omega) (by omega)
      rw [low_and h1 hq] at ha
      gi_wp2
      go_roundw
      case rel=>exact ⟨pre ++ [⟨low q,h2⟩],behindN q (low q),rfl,behind_lt _ _ hq,by rw [hx,mems_low h1 hq];simp,h6,h7 h5⟩
      case measure=>have:=behind_small h1 hq;simp only [intOf];omega
    · gi_wp2
      refine bodyPost_ret (results_none rfl _ _ _) rfl ?_
      exact ⟨⟨_,rfl⟩,.inr ⟨pre ++ [⟨low q,h2⟩],by rw [hx,mems_low h1 hq];simp,h3⟩⟩
theorem members_mb (n Bs s:Nat) (hs:s < 65536) (w:World) (hB:Bs < w.heap.size) (hc:w.cell? ⟨Bs,0,none⟩=some (.int .u64 s)) (h2:3≤w.heap.size) (hT:tabLaid w) :
 SeqStopsK Fence.wide n Tryz.prog 83 #[.pointer (some ⟨Bs,0,none⟩)] (encMb (s:=s)) KpT (fun ys=>ys.map (·.1)=mems s) (fun pre=>pre.map (·.1) <+: mems s) (mems s).length w:=fun l J Jx W hW _ _ hY h0=>
 members1_mb n l Bs s hs J Jx hY W ((hW.cell (p:=⟨Bs,0,none⟩) hB).trans hc) (hT.mono (by omega) hW) h0
end
section
open Go.Deep
def rightB (D L G:Int):Bool:=decide (1≤D∧D≤12∧1≤L∧L≤4∧0≤G∧G≤4∧D % L=0∧D+L+G≤16)
theorem ret_bool {a b:Bool} (h:a=b):Ending.returned (.bool a)=.returned (.bool b):=by rw [h]
theorem shards_any (D L G:Int) (w:World) (h1:0≤D∧D≤100) (h2:0≤L∧L≤100) (h3:0≤G∧G≤100) :
 Calls Tryz.prog 8 #[.agg #[.int .i64 D,.int .i64 L,.int .i64 G]] w fun e w'=>e=.returned (.int .i64 (D+L+G))∧Below w.heap.size w w':=by
 obtain ⟨a1,a2⟩:=h1
 obtain ⟨b1,b2⟩:=h2
 obtain ⟨c1,c2⟩:=h3
 go_enter Tryz.func8,Tryz.ntmps8
 go_wp2
 go_ret
 exact ⟨rfl,(Below.refl _ _).alloc (Nat.le_refl _) _⟩
theorem right_any (D L G:Int) (w:World) :
 Calls Tryz.prog 40 #[.agg #[.int .i64 D,.int .i64 L,.int .i64 G]] w fun e w'=>e=.returned (.bool (rightB D L G))∧Below w.heap.size w w':=by
 go_enter Tryz.func40,Tryz.ntmps40
 go_wp2_with (go_at_call 8;refine (shards_any D L G _ (by omega) (by omega) (by omega)).mono ?_;rintro e w' ⟨rfl,hb⟩)
 all_goals go_ret
 · refine ⟨ret_bool (b:=rightB D L G) ?_,((Below.refl _ _).alloc (Nat.le_refl _) _).trans (hb.mono (by simp))⟩
   unfold rightB
   rw [decide_eq_decide]
   constructor
   · intro h;exact ⟨by omega,by omega,by omega,by omega,by omega,by omega,by assumption,h⟩
   · intro h;exact h.2.2.2.2.2.2.2
 all_goals
  refine ⟨ret_bool (b:=rightB D L G) ?_,(Below.refl _ _).alloc (Nat.le_refl _) _⟩
  unfold rightB
  symm
  rw [decide_eq_false_iff_not]
  intro h
  omega
theorem rright_any (D L G:Int) (w:World) :
 Calls Tryz.prog 27 #[.agg #[.int .i64 D,.int .i64 L,.int .i64 G]] w fun e w'=>e=.returned (.bool (rightB D L G))∧Below w.heap.size w w':=by
 go_enter Tryz.func27,Tryz.ntmps27
 go_wp2
 all_goals go_ret
 rotate_left
 · refine ⟨ret_bool (b:=rightB D L G) ?_,(Below.refl _ _).alloc (Nat.le_refl _) _⟩
   unfold rightB
   rw [decide_eq_decide]
   constructor
   · intro h;exact ⟨by omega,by omega,by omega,by omega,by omega,by omega,by assumption,h⟩
   · intro h;exact h.2.2.2.2.2.2.2
 all_goals
  refine ⟨ret_bool (b:=rightB D L G) ?_,(Below.refl _ _).alloc (Nat.le_refl _) _⟩
  unfold rightB
  symm
  rw [decide_eq_false_iff_not]
  intro h
  omega
theorem theirs_any (D L G:Int) (w:World) :
 Calls Tryz.prog 10 #[.agg #[.int .i64 D,.int .i64 L,.int .i64 G]] w fun e w'=>e=.returned (.agg #[.int .i64 D,.int .i64 L,.int .i64 G])∧Below w.heap.size w w':=by
 go_enter Tryz.func10,Tryz.ntmps10
 go_wp2
 exact bodyPost_ret (v:=.agg #[.int .i64 D,.int .i64 L,.int .i64 G]) (by simp [results,Tryz.results10,go_sem]) rfl ⟨rfl,((Below.refl _ _).alloc (Nat.le_refl _) _).alloc (by simp) _⟩
end
end Go.Proofs.YthcgahldacpolaaGreatDoor
