import Derived.Test.YtmpnnokoodjllaaGreatDoorM04
set_option maxRecDepth 100000
set_option linter.all false
set_option maxHeartbeats 8000000
namespace Go.Proofs.YtmpnnokoodjllaaGreatDoor.Gf
variable {f:Nat->Bool}
def FK:∀ n,(∀ i,i<n->f i=false)->cp f n=0
 | 0,_=>rfl
 | n+1,h=>by
  have ih:=FK n (λi a=>h i eb);show cp f n+(if f n=true then 1 else 0)=0;rw [ih,h n eb];rfl
def Lq {g:Nat->Bool} {n:Nat} (h:n<=16) (a:∀ i,i<n->f i=g i) (b:∀ i,n<=i->f i=false):cp f 16=cp g n:=by
 have:=Jo f n (16-n);rw [(eb:n+(16-n)=16),sP n a,FK (16-n) (λi _=>b _ eb)] at this;exact this
def xW (n lost:Nat) (h:n<=16):(ae (aC n lost)).length+(ae (bN n lost)).length=n:=by
 have b:=Fz (aC n lost) (λ_=>true);have c:=Fz (bN n lost) (λ_=>true);rw [List.filter_eq_self.2 (λ_ _=>rfl)] at b c;rw [b,c,Lq (g:=λi=>lost.testBit i) h (λi a=>by rw [mR,decide_eq_true a];simp) (λi a=>by rw [mR,decide_eq_false eb];simp),
  Lq (g:=λi=>!lost.testBit i) h (λi a=>by rw [qD lost i h,decide_eq_true a];simp) (λi a=>by rw [qD lost i h,decide_eq_false eb];simp)]
 exact Jp (λi=>lost.testBit i) n
