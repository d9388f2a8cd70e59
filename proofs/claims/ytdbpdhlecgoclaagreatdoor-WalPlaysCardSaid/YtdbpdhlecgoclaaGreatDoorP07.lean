/-
  The contracts of the octet functions that only reckon: bound and Fits of the program,width and Fits of the document's answer.
-/
import Derived.Test.YtdbpdhlecgoclaaGreatDoorP00
import Derived.Test.YtdbpdhlecgoclaaGreatDoorP01
import Derived.Test.YtdbpdhlecgoclaaGreatDoorP05
import Derived.Test.YtdbpdhlecgoclaaGreatDoorP06
import Derived.Test.YtdbpdhlecgoclaaGreatDoorProg
import Derived.WalkKit
import Derived.WalkSpells
import Derived.BigQuiet
import Derived.Lib.Hide
import Derived.Laws.Bits64
import Derived.Outline
import Derived.Deep.DeepFit
import Derived.Laws.BitsAllLaws
import Derived.OwnWalk
import Derived.WalkLawsBesides
import Derived.Deep.QuietTactic
import Derived.Laws.OwnMore
namespace Go.Proofs.YtdbpdhlecgoclaaGreatDoor
set_option maxRecDepth 100000
set_option maxHeartbeats 6400000
open Go Go.RowKit
def Laid (w:World):Prop :=
 w.cell? ⟨3,0,none⟩=some (.int .i64 0)∧w.cell? ⟨3,1,none⟩=some (.int .i64 256)∧w.cell? ⟨3,2,none⟩=some (.int .i64 65536)∧w.cell? ⟨3,3,none⟩=some (.int .i64 0) ∧
 w.cell? ⟨3,4,none⟩=some (.int .i64 4294967296)∧w.cell? ⟨3,5,none⟩=some (.int .i64 0)∧w.cell? ⟨3,6,none⟩=some (.int .i64 281474976710656)
theorem zcd (x:Int) (w:World) (hL:Laid w) :
 Calls Tryz.prog 166 #[.int .i64 x] w fun e w'=>e=.returned (.int .i64 (bnd x))∧w=w':=by
 obtain ⟨h0,h1,h2,h3,h4,h5,h6⟩:=hL
 by_cases hn:x<0
 ·have hb:bnd x=0:=by unfold bnd;omega
  have HB:=qj hb
  clear hb
  go_enter Tryz.func166,Tryz.ntmps166
  go_wp2_with fail
  go_ret
  exact ⟨by rw [HB.out];rfl,rfl⟩
 ·by_cases hg:7≤x
  ·have hb:bnd x=0:=by unfold bnd;omega
   have HB:=qj hb
   clear hb
   go_enter Tryz.func166,Tryz.ntmps166
   go_wp2_with fail
   go_ret
   exact ⟨by rw [HB.out];rfl,rfl⟩
  ·have hx:x=0∨x=1∨x=2∨x=3∨x=4∨x=5∨x=6:=by omega
   clear hn hg
   rcases hx with rfl | rfl | rfl | rfl | rfl | rfl | rfl
   all_goals
    go_enter Tryz.func166,Tryz.ntmps166
    go_wp2_with fail
    go_ret
    exact ⟨rfl,rfl⟩
theorem zqS (x n:Int) (w:World) (hL:Laid w) :
 Calls Tryz.prog 126 #[x,n] w fun e w'=>e=.returned (.bool (fitsB x n))∧w=w':=by
 by_cases hn:0≤n
 ·have H:=qj hL
  clear hL
  go_enter Tryz.func126,Tryz.ntmps126
  go_wp2_with (go_at_call 166;refine (zcd _ _ H.out).mono ?_;rintro e w' ⟨rfl,rfl⟩)
  go_ret
  exact ⟨by simp [fitsB,hn],rfl⟩
 ·have H:=qj hL
  clear hL
  have HF:=qj (show fitsB x n=false by simp only [fitsB,hn,decide_false,Bool.false_and])
  go_enter Tryz.func126,Tryz.ntmps126
  go_wp2_with (go_at_call 166;refine (zcd _ _ H.out).mono ?_;rintro e w' ⟨rfl,rfl⟩)
  go_ret
  exact ⟨by rw [HF.out];rfl,rfl⟩
theorem zbC (x:Int) (w:World) :
 Calls Tryz.prog 168 #[.int .i64 x] w fun e w'=>e=.returned (.bool (wOk x))∧w=w':=by
 by_cases h1:x=1
 ·subst h1
  go_enter Tryz.func168,Tryz.ntmps168
  go_wp2_with fail
  go_ret
  exact ⟨rfl,rfl⟩
 by_cases h2:x=2
 ·subst h2
  go_enter Tryz.func168,Tryz.ntmps168
  go_wp2_with fail
  go_ret
  exact ⟨rfl,rfl⟩
 by_cases h4:x=4
 ·subst h4
  go_enter Tryz.func168,Tryz.ntmps168
  go_wp2_with fail
  go_ret
  exact ⟨rfl,rfl⟩
 have g1:(x == 1)=false:=by simp [h1]
 have g2:(x == 2)=false:=by simp [h2]
 have g4:(x == 4)=false:=by simp [h4]
 clear h1 h2 h4
 go_enter Tryz.func168,Tryz.ntmps168
 go_wp2_with fail
 go_ret
 exact ⟨by simp [wOk,g1,g2,g4],rfl⟩
theorem zrb (n:Int) (k:Nat):n/256 ^ k/256=n/256 ^ (k+1):=by
 rw [Int.ediv_ediv_of_nonneg (Int.pow_nonneg (by omega)),Int.pow_succ]
theorem zoT (x n:Int) (w:World) (hx:wOk x=true) (hn:0≤n) (hm:n≤9223372036854775807) :
 Calls Tryz.prog 132 #[x,n] w fun e w'=>e=.returned (.bool (fitsB x n))∧w=w':=by
 have hx0:1≤x∧x≤6:=by rcases zbW hx with rfl | rfl | rfl | rfl <;> omega
 have HX:=qj hx
 clear hx
 go_enter Tryz.func132,Tryz.ntmps132
 go_wp2_with (go_at_call 168;refine (zbC _ _).mono ?_;rintro e w' ⟨rfl,rfl⟩;rw [HX.out])
 go_loop [1,5] (fun q i=>∃k:Nat,(k:Int)≤x∧i=.int .i64 k∧q=.int .i64 (n/256 ^ k)) (fun _ i=>(x-intOf i).toNat)
 case atStart=>exact ⟨0,by omega,rfl,by simp⟩
 case round =>
  obtain ⟨k,hk,rfl,rfl⟩:=hrel
  have q0:0≤n/256 ^ k:=Int.ediv_nonneg hn (Int.pow_nonneg (by omega))
  have q1:n/256 ^ k≤n:=Int.ediv_le_self _ hn
  have q2:n/256 ^ k≤9223372036854775807:=by omega
  clear q1
  by_cases hlt:(k:Int)<x
  ·go_wp2_with fail
   go_round
   case rel=>exact ⟨k+1,by omega,by go_num,by rw [←zrb]⟩
   case measure=>simp [intOf];omega
  ·have hkx:(k:Int)=x:=by omega
   have HK:=qj hkx
   clear hkx
   go_wp2_with fail
   go_ret
   refine ⟨?_,rfl⟩
   have hw:=zho HX.out
   have e1:x.toNat=k:=by have:=HK.out;omega
   rw [e1] at hw
   simp only [fitsB,hn,hw,decide_true,Bool.true_and]
   refine congrArg (fun b=>Ending.returned (Value.bool b)) ?_
   rw [Bool.eq_iff_iff,beq_iff_eq,decide_eq_true_eq]
   have hp:(0:Int)<256 ^ k:=Int.pow_pos (by omega)
   constructor
   ·intro h
    have:=Int.emod_lt_of_pos n hp
    have h2:=Int.emod_add_mul_ediv n (256 ^ k)
    rw [h] at h2
    omega
   ·intro h
    exact Int.ediv_eq_zero_of_lt hn h
theorem zoz (x n:Int) (w:World) (hm:n≤9223372036854775807) :
 Calls Tryz.prog 132 #[x,n] w fun e w'=>e=.returned (.bool (fitsB x n))∧w=w':=by
 by_cases hx:wOk x=true
 ·by_cases hn:0≤n
  ·exact zoT x n w hx hn hm
  ·have HF:=qj (show fitsB x n=false by simp [fitsB,hn])
   have HX:=qj hx
   clear hx
   go_enter Tryz.func132,Tryz.ntmps132
   go_wp2_with (go_at_call 168;refine (zbC _ _).mono ?_;rintro e w' ⟨rfl,rfl⟩;rw [HX.out])
   go_ret
   exact ⟨by rw [HF.out];rfl,rfl⟩
 ·have hx':wOk x=false:=by simpa using hx
  have HF:=qj (show fitsB x n=false by simp only [fitsB,zeU hx',Bool.and_eq_false_iff,decide_eq_false_iff_not];omega)
  have HX:=qj hx'
  clear hx hx'
  go_enter Tryz.func132,Tryz.ntmps132
  go_wp2_with (go_at_call 168;refine (zbC _ _).mono ?_;rintro e w' ⟨rfl,rfl⟩;rw [HX.out])
  go_ret
  exact ⟨by rw [HF.out];rfl,rfl⟩
def getS (l:List Nat) (at_ x:Int):Nat × Nat × Int :=
 if wOk x=false∨at_<0∨(l.length:Int)<at_ then (0,0,2)
 else if (l.length:Int)-at_<x then (0,0,10)
 else (num ((l.drop at_.toNat).take x.toNat),at_.toNat+x.toNat,0)
theorem zbu {l:List Nat} {at_ x:Int} (h:wOk x=false∨at_<0∨(l.length:Int)<at_):getS l at_ x=(0,0,2):=by
 unfold getS
 rw [if_pos h]
theorem zba {l:List Nat} {at_ x:Int} (h1:wOk x=true) (h2:0≤at_) (h3:at_≤l.length) (h4:(l.length:Int)-at_<x):getS l at_ x=(0,0,10):=by
 unfold getS
 rw [if_neg (by rw [h1];simp;omega),if_pos h4]
theorem zbJ {l:List Nat} {at_ x:Int} (h1:wOk x=true) (h2:0≤at_) (h3:at_≤l.length) (h4:x≤(l.length:Int)-at_):getS l at_ x=(num ((l.drop at_.toNat).take x.toNat),at_.toNat+x.toNat,0):=by
 unfold getS
 rw [if_neg (by rw [h1];simp;omega),if_neg (by omega)]
theorem zkN {l:List Nat} {a k x:Nat} (h:l[a+k]?=some x):num ((l.drop a).take (k+1))=num ((l.drop a).take k)+256 ^ k * x:=by
 have e:(l.drop a)[k]?=some x:=by rw [List.getElem?_drop];exact h
 have hk:k<(l.drop a).length:=(List.getElem?_eq_some_iff.1 e).1
 rw [List.take_add_one,e,Option.toList_some,zqC,List.length_take,Nat.min_eq_left (by omega)]
theorem zgs {l:List Nat} (hl:∀b∈l,b<256) (a k:Nat) (hk:k≤6):num ((l.drop a).take k)<281474976710656:=by
 have h1:=zmX ((l.drop a).take k) (fun b hb=>hl b (List.mem_of_mem_drop (List.mem_of_mem_take hb)))
 have h2:((l.drop a).take k).length≤6:=by rw [List.length_take];omega
 exact Nat.lt_of_lt_of_le h1 (Nat.le_trans (Nat.pow_le_pow_right (by omega) h2) (by decide))
theorem zpo (k:Nat) (hk:k≤6):256 ^ k≤281474976710656:=Nat.le_trans (Nat.pow_le_pow_right (by omega) hk) (by decide)
theorem zbT (A:Option Addr) (l:List Nat) (n c B:Nat) (a x:Int) (w:World) (hl:l.length=n) (hr:Rd w B A l) (hm:n≤9000000000000000000) :
 Calls Tryz.prog 136 #[.slice A n c,a,x] w fun e w'=>e=.returned (.tuple #[.int .i64 (getS l a x).1,.int .i64 (getS l a x).2.1,.int .i64 (getS l a x).2.2])∧w=w':=by
 by_cases h1:wOk x=true
 ·by_cases h2:a<0
  ·have HF:=qj (zbu (l:=l) (at_:=a) (x:=x) (.inr (.inl h2)))
   have HX:=qj h1
   clear h1 hl
   go_enter Tryz.func136,Tryz.ntmps136
   go_wp2_with (go_at_call 168;refine (zbC _ _).mono ?_;rintro e w' ⟨rfl,rfl⟩;rw [HX.out])
   go_ret3
   exact ⟨by rw [HF.out];rfl,rfl⟩
  ·by_cases h3:(n:Int)<a
   ·have HF:=qj (zbu (l:=l) (at_:=a) (x:=x) (.inr (.inr (by rw [hl];exact h3))))
    have HX:=qj h1
    clear h1 hl
    go_enter Tryz.func136,Tryz.ntmps136
    go_wp2_with (go_at_call 168;refine (zbC _ _).mono ?_;rintro e w' ⟨rfl,rfl⟩;rw [HX.out])
    go_ret3
    exact ⟨by rw [HF.out];rfl,rfl⟩
   ·have hx0:1≤x∧x≤6:=by rcases zbW h1 with rfl | rfl | rfl | rfl <;> omega
    by_cases h4:(n:Int)-a<x
    ·have HF:=qj (zba (l:=l) (at_:=a) (x:=x) h1 (by omega) (by omega) (by omega))
     have HX:=qj h1
     clear h1 hl
     go_enter Tryz.func136,Tryz.ntmps136
     go_wp2_with (go_at_call 168;refine (zbC _ _).mono ?_;rintro e w' ⟨rfl,rfl⟩;rw [HX.out])
     go_ret3
     exact ⟨by rw [HF.out];rfl,rfl⟩
    ·obtain ⟨a,rfl⟩:=Int.eq_ofNat_of_zero_le (show 0≤a by omega)
     obtain ⟨x,rfl⟩:=Int.eq_ofNat_of_zero_le (show 0≤x by omega)
     have HF:=qj (zbJ (l:=l) (at_:=a) (x:=x) h1 (by omega) (by omega) (by omega))
     have HX:=qj h1
     have HL:=qj hl
     have hlt:=hr.lt
     have HLT:=qj hlt
     clear h1 hl hlt
     go_enter Tryz.func136,Tryz.ntmps136
     go_wp2_with (go_at_call 168;refine (zbC _ _).mono ?_;rintro e w' ⟨rfl,rfl⟩;rw [HX.out])
     go_loop [9,10,11] (fun s p i=>∃k:Nat,k≤x∧i=.int .i64 k∧p=.int .i64 ((256 ^ k:Nat):Int)∧s=.int .i64 ((num ((l.drop a).take k):Nat):Int)) (fun _ _ i=>x-(intOf i).toNat)
     case atStart=>exact ⟨0,Nat.zero_le _,rfl,rfl,rfl⟩
     case round =>
      obtain ⟨k,hk,rfl,rfl,rfl⟩:=hrel
      by_cases hkx:k<x
      ·obtain ⟨g,o,b,hA,_,hb,hb2,hc⟩:=hr.at_ (k:=a+k) (by rw [HL.out];omega)
       subst hA
       have hc':w.cell? (aD g (o+(a+k)))=some (.int .u8 ((b:Nat):Int)):=hc
       have HS:=qj (zkN hb)
       have hs1:=zgs HLT.out a k (by omega)
       have hp:=zpo k (by omega)
       have hmul:(256 ^ k) * b≤281474976710656 * 255:=Nat.mul_le_mul hp (by omega)
       have hpn:256 ^ (k+1)=256 * 256 ^ k:=by rw [Nat.pow_succ,Nat.mul_comm]
       have HP:=qj hpn
       clear hb hpn hc
       generalize hsn:num ((l.drop a).take k)=sn at *
       generalize hpk:256 ^ k=pk at *
       have hmul':(pk:Int) * (b:Int)≤281474976710656 * 255:=by rw [←Int.natCast_mul];omega
       have hmul0:0≤(pk:Int) * (b:Int):=Int.mul_nonneg (by omega) (by omega)
       clear hsn hpk
       go_wp2_with fail
       go_round
       case rel=>exact ⟨k+1,by omega,by go_num,by rw [HP.out];go_num,by rw [HS.out];go_num⟩
       case measure=>simp [intOf];omega
      ·have HK:Hid (k=x):=qj (by omega)
       go_wp2_with fail
       go_ret3
       exact ⟨by rw [HF.out,HK.out];simp,rfl⟩
 ·have HF:=qj (zbu (l:=l) (at_:=a) (x:=x) (.inl (by simpa using h1)))
  have HX:=qj (show wOk x=false by simpa using h1)
  clear h1 hl
  go_enter Tryz.func136,Tryz.ntmps136
  go_wp2_with (go_at_call 168;refine (zbC _ _).mono ?_;rintro e w' ⟨rfl,rfl⟩;rw [HX.out])
  go_ret3
  exact ⟨by rw [HF.out];rfl,rfl⟩
theorem zmh (a b:Nat) (ha:a<9223372036854775808) (hb:b<9223372036854775808):bits .or .i64 (a:Int) (b:Int)=((a ||| b:Nat):Int):=by
 have h:a ||| b<2 ^ 63:=Nat.or_lt_two_pow (by omega) (by omega)
 show IntKind.i64.wrap ((BitVec.ofInt 64 (a:Int) ||| BitVec.ofInt 64 (b:Int)).toNat:Int)=_
 rw [BitVec.toNat_or,ofInt_u64 a (by omega),ofInt_u64 b (by omega),IntKind.wrap_i64]
 omega
theorem zsF (s b k:Nat) (hk:k≤5) (hs:s<256 ^ k) (hb:b<256):bits .or .i64 (s:Int) (wrap64 ((b:Int) * 2 ^ (8 * k)))=((s+256 ^ k * b:Nat):Int):=by
 have e:(2:Nat) ^ (8 * k)=256 ^ k:=by rw [Nat.pow_mul]
 have e':((b:Int) * 2 ^ (8 * k))=((b * 256 ^ k:Nat):Int):=by rw [←e];simp
 have hp:256 ^ k≤1099511627776:=Nat.le_trans (Nat.pow_le_pow_right (by omega) hk) (by decide)
 have hm:b * 256 ^ k≤255 * 1099511627776:=Nat.mul_le_mul (by omega) hp
 rw [e',IntWalk.wrap64_in _ ⟨by omega,by omega⟩,zmh _ _ (by omega) (by omega),Nat.or_comm,nat_join (8 * k) _ _ (by rw [e];exact Nat.mul_mod_left _ _) (by rw [e];exact hs),Nat.mul_comm]
 congr 1
 omega
theorem zft {l:List Nat} (hl:∀b∈l,b<256) (a k:Nat):num ((l.drop a).take k)<256 ^ k:=by
 have h1:=zmX ((l.drop a).take k) (fun b hb=>hl b (List.mem_of_mem_drop (List.mem_of_mem_take hb)))
 exact Nat.lt_of_lt_of_le h1 (Nat.pow_le_pow_right (by omega) (List.length_take_le _ _))
theorem zbx (A:Option Addr) (l:List Nat) (n c B:Nat) (a x:Int) (w:World) (hL:Laid w) (hl:l.length=n) (hr:Rd w B A l) (hm:n≤9000000000000000000) :
 Calls Tryz.prog 156 #[.slice A n c,a,x] w fun e w'=>e=.returned (.tuple #[.int .i64 (getS l a x).1,.int .i64 (getS l a x).2.1,.int .i64 (getS l a x).2.2])∧w=w':=by
 have H:=qj hL
 clear hL
 by_cases h1:wOk x=true
 ·have hx0:1≤x∧x≤6:=by rcases zbW h1 with rfl | rfl | rfl | rfl <;> omega
  have hb0:(bnd x == 0)=false:=by rcases zbW h1 with rfl | rfl | rfl | rfl <;> rfl
  by_cases h2:a<0
  ·have HF:=qj (zbu (l:=l) (at_:=a) (x:=x) (.inr (.inl h2)))
   clear h1 hl
   go_enter Tryz.func156,Tryz.ntmps156
   go_wp2_with (go_at_call 166;refine (zcd _ _ H.out).mono ?_;rintro e w' ⟨rfl,rfl⟩)
   go_ret3
   exact ⟨by rw [HF.out];rfl,rfl⟩
  ·by_cases h3:(n:Int)<a
   ·have HF:=qj (zbu (l:=l) (at_:=a) (x:=x) (.inr (.inr (by rw [hl];exact h3))))
    clear h1 hl
    go_enter Tryz.func156,Tryz.ntmps156
    go_wp2_with (go_at_call 166;refine (zcd _ _ H.out).mono ?_;rintro e w' ⟨rfl,rfl⟩)
    go_ret3
    exact ⟨by rw [HF.out];rfl,rfl⟩
   ·by_cases h4:(n:Int)-a<x
    ·have HF:=qj (zba (l:=l) (at_:=a) (x:=x) h1 (by omega) (by omega) (by omega))
     clear h1 hl
     go_enter Tryz.func156,Tryz.ntmps156
     go_wp2_with (go_at_call 166;refine (zcd _ _ H.out).mono ?_;rintro e w' ⟨rfl,rfl⟩)
     go_ret3
     exact ⟨by rw [HF.out];rfl,rfl⟩
    ·obtain ⟨a,rfl⟩:=Int.eq_ofNat_of_zero_le (show 0≤a by omega)
     obtain ⟨x,rfl⟩:=Int.eq_ofNat_of_zero_le (show 0≤x by omega)
     have HF:=qj (zbJ (l:=l) (at_:=a) (x:=x) h1 (by omega) (by omega) (by omega))
     have HL:=qj hl
     have hlt:=hr.lt
     have HLT:=qj hlt
     clear h1 hl hlt
     go_enter Tryz.func156,Tryz.ntmps156
     go_wp2_with (go_at_call 166;refine (zcd _ _ H.out).mono ?_;rintro e w' ⟨rfl,rfl⟩)
     go_loop [6,30] (fun s i=>∃k:Nat,k≤x∧i=.int .i64 k∧s=.int .i64 ((num ((l.drop a).take k):Nat):Int)) (fun _ i=>x-(intOf i).toNat)
     case atStart=>exact ⟨0,Nat.zero_le _,rfl,rfl⟩
     case round =>
      obtain ⟨k,hk,rfl,rfl⟩:=hrel
      by_cases hkx:k<x
      ·obtain ⟨g,o,b,hA,_,hb,hb2,hc⟩:=hr.at_ (k:=a+k) (by rw [HL.out];omega)
       subst hA
       have hc':w.cell? (aD g (o+(a+k)))=some (.int .u8 ((b:Nat):Int)):=hc
       have HS:=qj (zkN hb)
       have hs1:=zgs HLT.out a k (by omega)
       clear hb hc
       go_wp2_with fail
       go_round
       case rel=>exact ⟨k+1,by omega,by go_num,by rw [HS.out];exact congrArg (Value.int .i64) (zsF _ b k (by omega) (zft HLT.out a k) hb2)⟩
       case measure=>simp [intOf];omega
      ·have HK:Hid (k=x):=qj (by omega)
       go_wp2_with fail
       go_ret3
       exact ⟨by rw [HF.out,HK.out];simp,rfl⟩
 ·have HF:=qj (zbu (l:=l) (at_:=a) (x:=x) (.inl (by simpa using h1)))
  have hb0:(bnd x == 0)=true:=by rw [zeU (by simpa using h1)];rfl
  clear h1 hl
  go_enter Tryz.func156,Tryz.ntmps156
  go_wp2_with (go_at_call 166;refine (zcd _ _ H.out).mono ?_;rintro e w' ⟨rfl,rfl⟩)
  go_ret3
  exact ⟨by rw [HF.out];rfl,rfl⟩
theorem Laid.keep {w w':World} (h:Laid w) (hk:∀p:Addr,p.block<w.heap.size→w'.cell? p=w.cell? p):Laid w':=by
 have hlt:3<w.heap.size:=World.block_lt_of_cell? w _ h.1
 unfold Laid at h ⊢
 obtain ⟨h0,h1,h2,h3,h4,h5,h6⟩:=h
 exact ⟨(hk _ hlt).trans h0,(hk _ hlt).trans h1,(hk _ hlt).trans h2,(hk _ hlt).trans h3,(hk _ hlt).trans h4,(hk _ hlt).trans h5,(hk _ hlt).trans h6⟩
theorem Laid.below {w w':World} (h:Laid w) (hb:Below w.heap.size w w'):Laid w':=h.keep fun _ hp=>hb.cell hp
theorem Laid.ext {a b:World} (h:Laid a) (k:Ext a b):Laid b:=h.below k
theorem zsR (k x N:Nat) (hk:k<x):(vb (digs k N++List.replicate (x-k) 0)).set k (.int .u8 ((N/256 ^ k%256:Nat):Int))=vb (digs (k+1) N++List.replicate (x-(k+1)) 0):=by
 have e:x-k=(x-(k+1))+1:=by omega
 rw [ziX,e,List.replicate_succ]
 simp only [vb,List.map_append,List.map_cons,List.append_assoc,List.map_nil]
 rw [List.set_append_right _ _ (by simp [zaB])]
 simp [zaB]
theorem zpz (N k:Nat):(((N:Int)/2 ^ (8 * k))%256)=((N/256 ^ k%256:Nat):Int):=by
 have e:(2:Nat) ^ (8 * k)=256 ^ k:=by rw [Nat.pow_mul]
 rw [←e]
 simp
theorem zrj (x N:Nat) (w:World) (hL:Laid w) (hf:fitsB x N=true) :
 Calls Tryz.prog 69 #[.int .i64 x,.int .i64 N] w fun e w'=>∃A' c',e=.returned (.tuple #[.slice A' x c',.int .i64 0])∧w'.ownsRow w.heap.size 5 1 (.slice A' x c') x (vb (digs x N))∧Below w.heap.size w w':=by
 obtain ⟨i0,hi,hz0,hz1,hz2⟩:=info_parts zay
 obtain ⟨hw,_,hN⟩:=zbs.1 hf
 have hx0:1≤x∧x≤6:=by rcases zbW hw with h | h | h | h <;> omega
 have hN2:N<281474976710656:=by
  have h1:256 ^ x≤256 ^ 6:=Nat.pow_le_pow_right (by omega) hx0.2
  simp only [Int.toNat_natCast] at hN
  exact Nat.lt_of_lt_of_le hN (Nat.le_trans h1 (by decide))
 have H:=qj hL
 have HF:=qj hf
 clear hL hf hN hw
 go_enter Tryz.func69,Tryz.ntmps69
 go_wp2_with (first
  | (go_at_call 126;refine (zqS _ _ _ H.out).mono ?_;rintro e w' ⟨rfl,rfl⟩;rw [HF.out])
  | (at_make;refine wpList_make_full _ rfl _ _ 45 rfl w.heap.size 5 i0 (.int .u8 0) 1 Tryz.underlying45 hi hz0 hz1 .i64 .i64 _ _ x rfl rfl rfl rfl ?b1 ?b2 ?b3 ?_))
 case b1=>rw [hz2];omega
 case b2=>unfold maxLen;omega
 case b3=>exact Nat.le_refl _
 intro w1 hown hg
 have HO:Hid (w1.ownsRow w.heap.size 5 1 (.slice (some ⟨w.heap.size,0,none⟩) x x) x (vb (digs 0 N++List.replicate (x-0) 0))):=by
  have e:(madeCells #[Value.int .u8 0] x).toList=vb (digs 0 N++List.replicate (x-0) 0):=by
   rw [toList_madeCells_one]
   simp [vb,digs]
  rw [e] at hown
  exact hown
 have HB:=qj ((Below.refl w.heap.size w).grown hg (Nat.le_refl _) (by simp))
 clear hown hg
 go_wp2_with fail
 go_loopw [15] (fun i wr=>∃k:Nat,k≤x∧i=.int .i64 k∧Hid (wr.ownsRow w.heap.size 5 1 (.slice (some ⟨w.heap.size,0,none⟩) x x) x (vb (digs k N++List.replicate (x-k) 0)))∧Below w.heap.size w wr) (fun i _=>x-(intOf i).toNat)
 case atStart=>exact ⟨0,Nat.zero_le _,rfl,HO,HB.out⟩
 case round =>
  obtain ⟨k,hk,rfl,HOk,hbk⟩:=hrel
  have HBk:=qj hbk
  clear hbk
  by_cases hlt:k<x
  ·have hcell:∃v,wr.cell? (aD w.heap.size k)=some v:=by
    rw [HOk.out.cellAt k (by omega)]
    exact ⟨_,List.getElem?_eq_getElem (by rw [zag,List.length_append,zaB,List.length_replicate];omega)⟩
   obtain ⟨v0,hv0⟩:=hcell
   have hfz:=HOk.out.frozenAt k
   go_wp2_with fail
   go_roundw
   case rel =>
    refine ⟨k+1,by omega,by go_num,?_,HBk.out.setCell (Nat.le_refl _) _⟩
    have hs:=(HOk.out.stored k (.int .u8 ((N/256 ^ k%256:Nat):Int))).1
    rw [zsR k x N hlt] at hs
    rw [←zpz] at hs
    exact hs
   case measure=>simp [intOf];omega
  ·have HK:Hid (k=x):=qj (by omega)
   go_wp2_with fail
   go_ret2
   refine ⟨_,_,rfl,?_,HBk.out⟩
   have:=HOk.out
   rw [HK.out,Nat.sub_self,List.replicate_zero,List.append_nil] at this
   exact this
theorem zoC {w wr w1:World} {k q N:Nat} {v v1:Value} (hq:q=N/256 ^ k) (hown:wr.ownsRow w.heap.size 5 1 v k (vb (digs k N))) (hbel:Below w.heap.size w wr)
 (hown1:w1.ownsRow w.heap.size 5 1 v1 (k+1) (vb (digs k N)++[.int .u8 ((q:Int)%256)])) (hg:(wr.alloc (.cells #[.int .u8 ((q:Int)%256)] 5)).grownBy w1 v.ownBlock) :
 w1.ownsRow w.heap.size 5 1 v1 (k+1) (vb (digs (k+1) N))∧Below w.heap.size w w1:=by
 refine ⟨?_,?_⟩
 ·rw [ziX,zew]
  have e:((q:Int)%256)=((N/256 ^ k%256:Nat):Int):=by rw [←hq];omega
  rw [e] at hown1
  exact hown1
 ·refine (hbel.alloc hbel.size _).grown hg (Nat.le_trans hbel.size (by simp)) ?_
  intro g hg'
  exact (hown.lt g hg').1
theorem zcI (x N:Nat) (w:World) (hf:fitsB x N=true) :
 Calls Tryz.prog 78 #[.int .i64 x,.int .i64 N] w fun e w'=>∃A' c',e=.returned (.tuple #[.slice A' x c',.int .i64 0])∧w'.ownsRow w.heap.size 5 1 (.slice A' x c') x (vb (digs x N))∧Below w.heap.size w w':=by
 obtain ⟨i0,hi,hz0,hz1,hz2⟩:=info_parts zay
 obtain ⟨hw,_,hN⟩:=zbs.1 hf
 have hx0:1≤x∧x≤6:=by rcases zbW hw with h | h | h | h <;> omega
 have hN2:N<281474976710656:=by
  have h1:256 ^ x≤256 ^ 6:=Nat.pow_le_pow_right (by omega) hx0.2
  simp only [Int.toNat_natCast] at hN
  exact Nat.lt_of_lt_of_le hN (Nat.le_trans h1 (by decide))
 have HF:=qj hf
 clear hf hN hw
 go_enter Tryz.func78,Tryz.ntmps78
 go_wp2_with (go_at_call 132;refine (zoz _ _ _ (by omega)).mono ?_;rintro e w' ⟨rfl,rfl⟩;rw [HF.out])
 go_loopw [1,6,7] (fun m v i wr=>∃k q:Nat,k≤x∧i=.int .i64 k∧m=.int .i64 q∧Hid (q=N/256 ^ k)∧q≤N∧Hid (wr.ownsRow w.heap.size 5 1 v k (vb (digs k N)))∧Below w.heap.size w wr) (fun _ _ i _=>x-(intOf i).toNat)
 case atStart=>exact ⟨0,N,Nat.zero_le _,rfl,rfl,qj (by simp),Nat.le_refl _,qj (World.ownsRow_nil _ _ _ _),Below.refl _ _⟩
 case round =>
  obtain ⟨k,q,hk,rfl,rfl,HQ,hqN,HO,hbk⟩:=hrel
  have HBk:=qj hbk
  have hsz:=hbk.size
  clear hbk
  by_cases hlt:k<x
  ·go_wp2_with (at_builtin;refine wpList_append_own _ rfl _ _ 45 rfl w.heap.size 5 i0 (.int .u8 0) 1 1 Tryz.underlying45 hi hz0 hz1 hz2 rfl (by decide) _ _ _ rfl (HO.out.alloc _) ⟨wr.heap.size,0,none⟩ 1 1 [.int .u8 ((q:Int)%256)] rfl rfl ?c1 ?c2 ?c3 ?c4 ?c5 ?_)
   case c1 =>
    intro j u hj
    match j,hj with
    | 0,hj=>simp at hj;subst hj;simp [Addr.add]
   case c2=>intro u hu;simp at hu;subst hu;rfl
   case c3=>unfold maxLen;omega
   case c4=>omega
   case c5=>simp;omega
   intro v1 w1 hown hg _
   have R:=zoC HQ.out HO.out HBk.out hown hg
   have HO1:=qj R.1
   have HB1:=qj R.2
   clear hown hg R
   go_wp2_with fail
   go_roundw
   case rel=>exact ⟨k+1,q/256,by omega,by go_num,by go_num,qj (by rw [HQ.out,Nat.div_div_eq_div_mul,Nat.pow_succ]),by omega,HO1,HB1.out⟩
   case measure=>simp [intOf];omega
  ·have HK:Hid (k=x):=qj (by omega)
   obtain ⟨A',c',hv,_,_⟩:=zbK HO.out
   subst hv
   go_wp2_with fail
   go_ret2
   have h1:=HO.out
   rw [HK.out] at h1
   exact ⟨A',c',by rw [HK.out];rfl,h1,HBk.out⟩
theorem zfX {l:List Nat} {x:Nat} (hw:wOk x=true) (h:x≤l.length):getS l 0 x=(num (l.take x),x,0):=by
 rw [zbJ hw (by omega) (by omega) (by omega)]
 simp
theorem zfZ (x N:Nat) (w:World) (hL:Laid w) (hf:fitsB x N=true) :
 Calls Tryz.prog 69 #[.int .i64 x,.int .i64 N] w fun e w'=>∃A' c',e=.returned (.tuple #[.slice A' x c',.int .i64 0])∧By w' A' x c' (digs x N)∧Ext w w' :=
 (zrj x N w hL hf).mono fun _ _ ⟨A',c',h1,h2,h3⟩=>⟨A',c',h1,Bs.of_own h2 (zaV x N),h3⟩
theorem zuI (A:Option Addr) (l:List Nat) (n c:Nat) (a x:Int) (w:World) (hL:Laid w) (hb:By w A n c l) (hm:n≤9000000000000000000) :
 (cL 156 #[.slice A n c,a,x] w (.tuple #[.int .i64 (getS l a x).1,.int .i64 (getS l a x).2.1,.int .i64 (getS l a x).2.2]):Prop) :=
 (zbx A l n c _ a x w hL hb.len hb.rd hm).mono fun _ _ ⟨h,hw⟩=>⟨h,by subst hw;exact Ext.refl _⟩
def zkl (w:World):Prop:=∀k:Nat,k<5→w.cell? ⟨2,k,none⟩=some (.int .i64 (wth k))
theorem zkl.ext {a b:World} (h:zkl a) (k:Ext a b):zkl b:=fun i hi=>Ext.cell k (h i hi)
structure LaidA (w:World):Prop where
 o:Laid w
 t:zbo w
 w:zkl w
theorem LaidA.ext {a b:World} (h:LaidA a) (k:Ext a b):LaidA b:=⟨h.o.ext k,h.t.ext k,h.w.ext k⟩
theorem zmo (a b c d e k:Nat) (hk:k<5) (w:World):(Instr.index 227 (.agg #[.int .i64 a,.int .i64 b,.int .i64 c,.int .i64 d,.int .i64 e]) (.int .i64 k)).run Tryz.prog w=.ok (.int .i64 (fld a b c d e k)) w:=by
 have hj':k=0∨k=1∨k=2∨k=3∨k=4:=by omega
 rcases hj' with rfl | rfl | rfl | rfl | rfl <;> (show _=_;kernel_rfl)
theorem zqj (a b c d e:Int) (w:World) (hL:zbo w) (hm:mayB a b c d e=false) :
 Calls Tryz.prog 128 #[.agg #[a,b,c,d,e]] w fun r w'=>r=.returned (.tuple Zk.o)∧Ext w w':=by
 have hE:=(Ext.refl w).alloc (.cells #[a,b,c,d,e] 44)
 have HL:=qj (hL.ext hE)
 have HE:=qj hE
 have HM:=qj hm
 clear hL hE hm
 go_enter Tryz.func128,Tryz.ntmps128
 go_wp2_with fail
 refine (zcw _ _ _ _ _ _ HL.out).mono ?_
 rw [HM.out]
 rintro r w1 ⟨rfl,hx⟩
 have HE:=qj (HE.out.trans hx)
 clear hx
 go_wp2_with fail
 go_ret2
 exact ⟨rfl,HE.out⟩
theorem zpe (a b c d e:Nat) (w:World) (hL:LaidA w) (hm:mayB a b c d e=true) :
 Calls Tryz.prog 128 #[.agg #[.int .i64 a,.int .i64 b,.int .i64 c,.int .i64 d,.int .i64 e]] w fun r w'=>∃A cp,r=.returned (.tuple #[.slice A 15 cp,.int .i64 0])∧By w' A 15 cp (tagBytes a b c d e)∧Ext w w':=by
 have hE:=(Ext.refl w).alloc (.cells #[.int .i64 a,.int .i64 b,.int .i64 c,.int .i64 d,.int .i64 e] 44)
 have hc:=fun i=>(cell_of_row _ w.heap.size i _ 44 (0,0) (heap_alloc_new w (.cells #[.int .i64 a,.int .i64 b,.int .i64 c,.int .i64 d,.int .i64 e] 44)))
 have HC:=qj hc
 have HL:=qj (hL.ext hE)
 have HE:=qj hE
 have HM:=qj hm
 clear hL hE hm hc
 go_enter Tryz.func128,Tryz.ntmps128
 go_wp2_with fail
 refine (zcw _ _ _ _ _ _ HL.out.t).mono ?_
 rw [HM.out]
 rintro r w1 ⟨rfl,hx⟩
 have i0:w1.cell? (aD w.heap.size 0)=some (.int .i64 a):=Ext.cell hx (HC.out 0)
 have i1:w1.cell? (aD w.heap.size 1)=some (.int .i64 b):=Ext.cell hx (HC.out 1)
 have i2:w1.cell? (aD w.heap.size 2)=some (.int .i64 c):=Ext.cell hx (HC.out 2)
 have i3:w1.cell? (aD w.heap.size 3)=some (.int .i64 d):=Ext.cell hx (HC.out 3)
 have i4:w1.cell? (aD w.heap.size 4)=some (.int .i64 e):=Ext.cell hx (HC.out 4)
 have HL:=qj (HL.out.ext hx)
 have HE:=qj (HE.out.trans hx)
 clear hx HC
 go_wp2_with fail
 clear i0 i1 i2 i3 i4
 go_loopw [4,23] (fun v i wr=>∃k:Nat,k≤5∧i=.int .i64 k∧∃A n cp,v=.slice A n cp∧Hid (By wr A n cp (pre (fld a b c d e) k))∧Hid (Ext w1 wr)) (fun _ i _=>5-(intOf i).toNat)
 case atStart=>exact ⟨0,Nat.zero_le _,rfl,none,0,0,rfl,qj (By.nil_ _),qj (Ext.refl _)⟩
 case round =>
  obtain ⟨k,hk,rfl,A,n,cp,rfl,HB,HX⟩:=hrel
  by_cases hlt:k<5
  ·have hn:n≤30:=by
    have h1:=HB.out.len
    have h2:=zmu (fld a b c d e) k
    omega
   have hcap:=HB.out.cap
   have hW:=(HL.out.ext HX.out).w k hlt
   have hI:=zmo a b c d e k hlt
   have hwl:=zlQ k
   go_wp2_with fail
   refine (zfZ _ _ _ (HL.out.ext HX.out).o (zia HM.out k)).mono ?_
   rintro r w2 ⟨A2,c2,rfl,hb,hx⟩
   have HB2:=qj hb
   have HB:=qj (HB.out.ext hx)
   have HX:=qj (HX.out.trans hx)
   clear hx hb hW hI
   go_wp2_with fail
   refine (zdu _ HB.out HB2.out (by omega)).mono ?_
   rintro r w3 ⟨A3,c3,rfl,hb,hx⟩
   have HB3:=qj hb
   have HX:=qj (HX.out.trans hx)
   clear hx hb
   go_wp2_with fail
   go_roundw
   case rel=>exact ⟨k+1,by omega,by go_num,A3,_,c3,rfl,HB3,HX⟩
   case measure=>simp [intOf];omega
  ·have HK:Hid (k=5):=qj (by omega)
   have hb:=HB.out
   rw [HK.out] at hb
   have hn:n=15:=hb.len.symm.trans (zaS a b c d e)
   subst hn
   have HB:=qj hb
   clear hb
   go_wp2_with fail
   go_ret2
   exact ⟨A,cp,rfl,HB.out,HE.out.trans HX.out⟩
theorem zaw (r:Int) (w:World) :
 Calls Tryz.prog 142 #[.int .i64 r] w fun e w'=>e=.returned (.int .i64 (plc r))∧w=w':=by
 by_cases h:r<1∨5<r
 ·have HF:=qj (zgz h)
  have g1:(r == 1)=false:=by simp;omega
  have g2:(r == 2)=false:=by simp;omega
  have g3:(r == 3)=false:=by simp;omega
  have g4:(r == 4)=false:=by simp;omega
  have g5:(r == 5)=false:=by simp;omega
  clear h
  go_enter Tryz.func142,Tryz.ntmps142
  go_wp2_with fail
  go_ret
  exact ⟨by rw [HF.out];rfl,rfl⟩
 ·rcases zcv (r:=r) (by omega) with rfl | rfl | rfl | rfl | rfl
  all_goals
   go_enter Tryz.func142,Tryz.ntmps142
   go_wp2_with fail
   go_ret
   exact ⟨rfl,rfl⟩
theorem zcj {a b c d e:Int} (h:¬(0≤a∧a≤6∧1≤b∧b≤5∧0≤c∧c<plc b∧0≤d∧d≤1099511627776∧1≤e∧e≤1099511627776)):mayB a b c d e=false:=by
 unfold mayB
 exact decide_eq_false h
theorem zfx (a b c d e:Int) (w:World) :
 Calls Tryz.prog 145 #[.agg #[a,b,c,d,e]] w fun r w'=>r=.returned (.bool (mayB a b c d e))∧Ext w w':=by
 have hE:=(Ext.refl w).alloc (.cells #[a,b,c,d,e] 44)
 have HE:=qj hE
 clear hE
 by_cases h1:a<0
 ·have HM:=qj (zcj (a:=a) (b:=b) (c:=c) (d:=d) (e:=e) (by omega))
  have g1:decide (a<0)=true:=by simpa using h1
  clear h1
  go_enter Tryz.func145,Tryz.ntmps145
  go_wp2_with fail
  go_quiet ((go_at_call 142;exact Calls.quiet_of_same ((zaw _ _).mono fun _ _ h=>⟨h.1,h.2.symm⟩)))
  go_wp2_with fail
  go_ret
  exact ⟨by rw [HM.out];rfl,HE.out.drewN _⟩
 by_cases h2:6<a
 ·have HM:=qj (zcj (a:=a) (b:=b) (c:=c) (d:=d) (e:=e) (by omega))
  have g2:decide (6<a)=true:=by simpa using h2
  have g1:decide (a<0)=false:=by simpa using h1
  clear h1 h2
  go_enter Tryz.func145,Tryz.ntmps145
  go_wp2_with fail
  go_quiet ((go_at_call 142;exact Calls.quiet_of_same ((zaw _ _).mono fun _ _ h=>⟨h.1,h.2.symm⟩)))
  go_wp2_with fail
  go_ret
  exact ⟨by rw [HM.out];rfl,HE.out.drewN _⟩
 by_cases h3:b<1
 ·have HM:=qj (zcj (a:=a) (b:=b) (c:=c) (d:=d) (e:=e) (by omega))
  have g3:decide (b<1)=true:=by simpa using h3
  have g1:decide (a<0)=false:=by simpa using h1
  have g2:decide (6<a)=false:=by simpa using h2
  clear h1 h2 h3
  go_enter Tryz.func145,Tryz.ntmps145
  go_wp2_with fail
  go_quiet ((go_at_call 142;exact Calls.quiet_of_same ((zaw _ _).mono fun _ _ h=>⟨h.1,h.2.symm⟩)))
  go_wp2_with fail
  go_ret
  exact ⟨by rw [HM.out];rfl,HE.out.drewN _⟩
 by_cases h4:5<b
 ·have HM:=qj (zcj (a:=a) (b:=b) (c:=c) (d:=d) (e:=e) (by omega))
  have g4:decide (5<b)=true:=by simpa using h4
  have g1:decide (a<0)=false:=by simpa using h1
  have g2:decide (6<a)=false:=by simpa using h2
  have g3:decide (b<1)=false:=by simpa using h3
  clear h1 h2 h3 h4
  go_enter Tryz.func145,Tryz.ntmps145
  go_wp2_with fail
  go_quiet ((go_at_call 142;exact Calls.quiet_of_same ((zaw _ _).mono fun _ _ h=>⟨h.1,h.2.symm⟩)))
  go_wp2_with fail
  go_ret
  exact ⟨by rw [HM.out];rfl,HE.out.drewN _⟩
 by_cases h5:c<0
 ·have HM:=qj (zcj (a:=a) (b:=b) (c:=c) (d:=d) (e:=e) (by omega))
  have g5:decide (c<0)=true:=by simpa using h5
  have g1:decide (a<0)=false:=by simpa using h1
  have g2:decide (6<a)=false:=by simpa using h2
  have g3:decide (b<1)=false:=by simpa using h3
  have g4:decide (5<b)=false:=by simpa using h4
  clear h1 h2 h3 h4 h5
  go_enter Tryz.func145,Tryz.ntmps145
  go_wp2_with fail
  go_quiet ((go_at_call 142;exact Calls.quiet_of_same ((zaw _ _).mono fun _ _ h=>⟨h.1,h.2.symm⟩)))
  go_wp2_with fail
  go_ret
  exact ⟨by rw [HM.out];rfl,HE.out.drewN _⟩
 by_cases h6:(plc b:Int)≤c
 ·have HM:=qj (zcj (a:=a) (b:=b) (c:=c) (d:=d) (e:=e) (by omega))
  have g6:decide ((plc b:Int)≤c)=true:=by simpa using h6
  have g1:decide (a<0)=false:=by simpa using h1
  have g2:decide (6<a)=false:=by simpa using h2
  have g3:decide (b<1)=false:=by simpa using h3
  have g4:decide (5<b)=false:=by simpa using h4
  have g5:decide (c<0)=false:=by simpa using h5
  clear h1 h2 h3 h4 h5 h6
  go_enter Tryz.func145,Tryz.ntmps145
  go_wp2_with fail
  go_quiet ((go_at_call 142;exact Calls.quiet_of_same ((zaw _ _).mono fun _ _ h=>⟨h.1,h.2.symm⟩)))
  go_wp2_with fail
  go_ret
  exact ⟨by rw [HM.out];rfl,HE.out.drewN _⟩
 have g1:decide (a<0)=false:=by simpa using h1
 have g2:decide (6<a)=false:=by simpa using h2
 have g3:decide (b<1)=false:=by simpa using h3
 have g4:decide (5<b)=false:=by simpa using h4
 have g5:decide (c<0)=false:=by simpa using h5
 have g6:decide ((plc b:Int)≤c)=false:=by simpa using h6
 by_cases k1:¬0≤d
 ·have HM:=qj (zcj (a:=a) (b:=b) (c:=c) (d:=d) (e:=e) (by omega))
  have j1:decide (0≤d)=false:=by simpa using k1
  clear h1 h2 h3 h4 h5 h6 k1
  go_enter Tryz.func145,Tryz.ntmps145
  go_wp2_with fail
  go_quiet ((go_at_call 142;exact Calls.quiet_of_same ((zaw _ _).mono fun _ _ h=>⟨h.1,h.2.symm⟩)))
  go_wp2_with fail
  go_ret
  exact ⟨by rw [HM.out];rfl,HE.out.drewN _⟩
 by_cases k2:¬d≤1099511627776
 ·have HM:=qj (zcj (a:=a) (b:=b) (c:=c) (d:=d) (e:=e) (by omega))
  have j2:decide (d≤1099511627776)=false:=by simpa using k2
  have j1:decide (0≤d)=true:=by simpa using k1
  clear h1 h2 h3 h4 h5 h6 k1 k2
  go_enter Tryz.func145,Tryz.ntmps145
  go_wp2_with fail
  go_quiet ((go_at_call 142;exact Calls.quiet_of_same ((zaw _ _).mono fun _ _ h=>⟨h.1,h.2.symm⟩)))
  go_wp2_with fail
  go_ret
  exact ⟨by rw [HM.out];rfl,HE.out.drewN _⟩
 by_cases k3:¬1≤e
 ·have HM:=qj (zcj (a:=a) (b:=b) (c:=c) (d:=d) (e:=e) (by omega))
  have j3:decide (1≤e)=false:=by simpa using k3
  have j1:decide (0≤d)=true:=by simpa using k1
  have j2:decide (d≤1099511627776)=true:=by simpa using k2
  clear h1 h2 h3 h4 h5 h6 k1 k2 k3
  go_enter Tryz.func145,Tryz.ntmps145
  go_wp2_with fail
  go_quiet ((go_at_call 142;exact Calls.quiet_of_same ((zaw _ _).mono fun _ _ h=>⟨h.1,h.2.symm⟩)))
  go_wp2_with fail
  go_ret
  exact ⟨by rw [HM.out];rfl,HE.out.drewN _⟩
 by_cases k4:¬e≤1099511627776
 ·have HM:=qj (zcj (a:=a) (b:=b) (c:=c) (d:=d) (e:=e) (by omega))
  have j4:decide (e≤1099511627776)=false:=by simpa using k4
  have j1:decide (0≤d)=true:=by simpa using k1
  have j2:decide (d≤1099511627776)=true:=by simpa using k2
  have j3:decide (1≤e)=true:=by simpa using k3
  clear h1 h2 h3 h4 h5 h6 k1 k2 k3 k4
  go_enter Tryz.func145,Tryz.ntmps145
  go_wp2_with fail
  go_quiet ((go_at_call 142;exact Calls.quiet_of_same ((zaw _ _).mono fun _ _ h=>⟨h.1,h.2.symm⟩)))
  go_wp2_with fail
  go_ret
  exact ⟨by rw [HM.out];rfl,HE.out.drewN _⟩
 have j1:decide (0≤d)=true:=by simpa using k1
 have j2:decide (d≤1099511627776)=true:=by simpa using k2
 have j3:decide (1≤e)=true:=by simpa using k3
 have j4:decide (e≤1099511627776)=true:=by simpa using k4
 have HM:=qj (zds (a:=a) (b:=b) (c:=c) (d:=d) (e:=e) |>.2 (by omega))
 clear h1 h2 h3 h4 h5 h6 k1 k2 k3 k4
 go_enter Tryz.func145,Tryz.ntmps145
 go_wp2_with fail
 go_quiet ((go_at_call 142;exact Calls.quiet_of_same ((zaw _ _).mono fun _ _ h=>⟨h.1,h.2.symm⟩)))
 go_wp2_with fail
 go_ret
 exact ⟨by rw [HM.out];rfl,HE.out.drewN _⟩
theorem zck {w w':World} {base:Nat} {e:TypeId} {size:Nat} {v:Value} {n:Nat} {xs:List Value} (h:w.ownsRow base e size v n xs) (k:Ext w w'):w'.ownsRow base e size v n xs:=by
 refine ⟨h.1,?_⟩
 rcases h.2 with h0 | ⟨g,cap,cur,hv,hb,hg,h1⟩
 ·exact .inl h0
 ·exact .inr ⟨g,cap,cur,hv,hb,(k.block g (Array.getElem?_eq_some_iff.1 hg).1).trans hg,h1⟩
theorem zsC (w:World) (l:List Nat) (base:Nat) (e:TypeId) (hb:base≤w.heap.size) (hm:l.length≤9223372036854775807) (cs:Array Value) (hcs:cs=(vb l).toArray):(w.alloc (.cells cs e)).ownsRow base e 1 (.slice (some ⟨w.heap.size,0,none⟩) l.length l.length) l.length (vb l):=by
 subst hcs
 have h:=World.ownsRow_lit (e:=e) (size:=1) w (vb l).toArray l.length hb (by unfold maxLen;omega) (by simp [zag])
 simpa using h
theorem Ext.cellv {a b:World} {p:Addr} {v:Value} (k:Ext a b) (h:a.cell? p=some v):b.cell? p=some v:=(Below.cell k (World.block_lt_of_cell? a _ h)).trans h
theorem zld {a b c d e:Nat} (h:mayB a b c d e=true):tagBytes a b c d e=[a,b,c]++digs 6 d++digs 6 e:=by
 rw [zds] at h
 have hp:=zeZ (b:Int)
 simp only [tagBytes,pre,wth,fld,digs,List.nil_append]
 rw [show a%256=a by omega,show b%256=b by omega,show c%256=c by omega]
 rfl
theorem zoj (a b c d e:Int) (w:World) (hm:mayB a b c d e=false) :
 Calls Tryz.prog 94 #[.agg #[a,b,c,d,e]] w fun r w'=>r=.returned (.tuple Zk.o)∧Ext w w':=by
 have hE:=(Ext.refl w).alloc (.cells #[a,b,c,d,e] 44)
 have HE:=qj hE
 have HM:=qj hm
 clear hE hm
 go_enter Tryz.func94,Tryz.ntmps94
 go_wp2_with fail
 refine (zfx _ _ _ _ _ _).mono ?_
 rw [HM.out]
 rintro r w1 ⟨rfl,hx⟩
 have HE:=qj (HE.out.trans hx)
 clear hx
 go_wp2_with fail
 go_ret2
 exact ⟨rfl,HE.out⟩
theorem zlK (a b c d e:Nat) (w:World) (hm:mayB a b c d e=true) :
 Calls Tryz.prog 94 #[.agg #[.int .i64 a,.int .i64 b,.int .i64 c,.int .i64 d,.int .i64 e]] w fun r w'=>∃A cp,r=.returned (.tuple #[.slice A 15 cp,.int .i64 0])∧By w' A 15 cp (tagBytes a b c d e)∧Ext w w':=by
 obtain ⟨i0,hi,hz0,hz1,hz2⟩:=info_parts zay
 have hE:=(Ext.refl w).alloc (.cells #[.int .i64 a,.int .i64 b,.int .i64 c,.int .i64 d,.int .i64 e] 44)
 have hc:=fun i=>(cell_of_row _ w.heap.size i _ 44 (0,0) (heap_alloc_new w (.cells #[.int .i64 a,.int .i64 b,.int .i64 c,.int .i64 d,.int .i64 e] 44)))
 have HC:=qj hc
 have HE:=qj hE
 have HM:=qj hm
 have HT:=qj (zld hm)
 rw [zds] at hm
 have hp:=zeZ (b:Int)
 have ha:a<256:=by omega
 have hb:b<256:=by omega
 have hc':c<256:=by omega
 generalize tagBytes a b c d e=T at *
 clear hE hm hc hp
 go_enter Tryz.func94,Tryz.ntmps94
 go_wp2_with fail
 refine (zfx _ _ _ _ _ _).mono ?_
 rw [HM.out]
 rintro r w1 ⟨rfl,hx⟩
 have j0:w1.cell? (aD w.heap.size 0)=some (.int .i64 a):=Ext.cellv hx (HC.out 0)
 have j1:w1.cell? (aD w.heap.size 1)=some (.int .i64 b):=Ext.cellv hx (HC.out 1)
 have j2:w1.cell? (aD w.heap.size 2)=some (.int .i64 c):=Ext.cellv hx (HC.out 2)
 have j3:w1.cell? (aD w.heap.size 3)=some (.int .i64 d):=Ext.cellv hx (HC.out 3)
 have j4:w1.cell? (aD w.heap.size 4)=some (.int .i64 e):=Ext.cellv hx (HC.out 4)
 have HE:=qj (HE.out.trans hx)
 have k3:(w1.alloc (.cells #[.int .u8 a,.int .u8 b,.int .u8 c] 5)).cell? (aD w.heap.size 3)=some (.int .i64 d):=Ext.cellv ((Ext.refl w1).alloc _) j3
 have k4:(w1.alloc (.cells #[.int .u8 a,.int .u8 b,.int .u8 c] 5)).cell? (aD w.heap.size 4)=some (.int .i64 e):=Ext.cellv ((Ext.refl w1).alloc _) j4
 have HK4:=qj k4
 have HO:Hid ((w1.alloc (.cells #[.int .u8 a,.int .u8 b,.int .u8 c] 5)).ownsRow w.heap.size 5 1 (.slice (some ⟨w1.heap.size,0,none⟩) 3 3) 3 (vb [a,b,c])):=qj (zsC w1 [a,b,c] w.heap.size 5 (Ext.size HE.out) (by simp) _ rfl)
 have HE:=qj (HE.out.alloc (.cells #[.int .u8 a,.int .u8 b,.int .u8 c] 5))
 clear hx HC j3 j4 k4
 go_wp2_with fail
 clear j0 j1 j2 k3
 refine (zcI 6 d _ (zia HM.out 3)).mono ?_
 rintro r w2 ⟨A2,c2,rfl,hown,hx⟩
 have HB2:Hid (By w2 A2 6 c2 (digs 6 d)):=qj (Bs.of_own hown (zaV 6 d))
 have j4:w2.cell? (aD w.heap.size 4)=some (.int .i64 e):=Ext.cellv hx HK4.out
 have HO:=qj (zck HO.out hx)
 have HE:=qj (HE.out.trans hx)
 have hs:=Ext.size hx
 have hs12:w1.heap.size<w2.heap.size:=by simp at hs;omega
 have HS12:=qj hs12
 clear hown hx HK4 hs hs12
 go_wp2_with fail
 clear j4
 refine (zcI 6 e _ (zia HM.out 4)).mono ?_
 rintro r w3 ⟨A3,c3,rfl,hown,hx⟩
 have HO3:=qj hown
 have HB2:=qj (HB2.out.ext hx)
 have HO:=qj (zck HO.out hx)
 have HE:=qj (HE.out.trans hx)
 have hsz:=Ext.size HE.out
 clear hown hx
 go_wp2_with (at_builtin;refine zak rfl _ _ 45 rfl w.heap.size 5 i0 Tryz.underlying45 hi hz0 hz1 hz2 _ 3 (vb [a,b,c]) rfl HO.out _ 6 _ (digs 6 d) rfl HB2.out (by omega) hsz ?_)
 intro v4 w4 hown hg
 obtain ⟨hx,A4,c4,rfl,hb4,hown⟩:=zbL HE.out HO.out hg hown (by intro x hx;simp at hx;omega) (zaV 6 d)
 have HO4:=qj hown
 have hne:(Value.slice A3 6 c3).ownBlock≠(Value.slice (some ⟨w1.heap.size,0,none⟩) 3 3).ownBlock:=fun h=>by
  have h1:w2.heap.size≤w1.heap.size:=(HO3.out.lt _ h).1
  have h2:=HS12.out
  omega
 have HB3:Hid (By w4 A3 6 c3 (digs 6 e)):=qj (Bs.of_own (HO3.out.kept hg (.inr hne)) (zaV 6 e))
 have HE:=qj hx
 have hsz4:=Ext.size HE.out
 clear hown hg hx hb4 hne
 go_wp2_with (at_builtin;refine zak rfl _ _ 45 rfl w.heap.size 5 i0 Tryz.underlying45 hi hz0 hz1 hz2 _ 9 (vb ([a,b,c]++digs 6 d)) rfl HO4.out _ 6 _ (digs 6 e) rfl HB3.out (by omega) hsz4 ?_)
 intro v5 w5 hown hg
 obtain ⟨hx,A5,c5,rfl,hb5,_⟩:=zbL HE.out HO4.out hg hown (by
  intro x hx
  rcases List.mem_append.1 (show x∈[a,b,c]++digs 6 d from hx) with h | h
  ·simp at h;omega
  ·exact zaV 6 d x h) (zaV 6 e)
 have HB5:=qj hb5
 have HX5:=qj hx
 clear hown hg hx hb5 hsz hsz4
 go_wp2_with fail
 go_ret2
 exact ⟨A5,c5,rfl,by rw [HT.out];exact HB5.out,HX5.out⟩
theorem zoR (a b c d e:Int) (w:World) (hL:LaidA w) :
 Calls Tryz.prog 128 #[.agg #[a,b,c,d,e]] w fun r w'=>∃A cp,r=.returned (.tuple #[.slice A (pl a b c d e).length cp,.int .i64 (pr a b c d e)])∧By w' A (pl a b c d e).length cp (pl a b c d e)∧Ext w w':=by
 by_cases h:mayB a b c d e=true
 ·obtain ⟨a,b,c,d,e,rfl,rfl,rfl,rfl,rfl⟩:=zng h
  rw [zdd h,zfL h]
  simp only [Int.toNat_natCast,zaS]
  exact zpe a b c d e w hL h
 ·have h':mayB a b c d e=false:=by simpa using h
  rw [zrg h',zpA h']
  exact (zqj a b c d e w hL.t h').mono fun _ w' ⟨h1,h2⟩=>⟨none,0,h1,By.nil_ w',h2⟩
theorem zdG (a b c d e:Int) (w:World) :
 Calls Tryz.prog 94 #[.agg #[a,b,c,d,e]] w fun r w'=>∃A cp,r=.returned (.tuple #[.slice A (pl a b c d e).length cp,.int .i64 (pr a b c d e)])∧By w' A (pl a b c d e).length cp (pl a b c d e)∧Ext w w':=by
 by_cases h:mayB a b c d e=true
 ·obtain ⟨a,b,c,d,e,rfl,rfl,rfl,rfl,rfl⟩:=zng h
  rw [zdd h,zfL h]
  simp only [Int.toNat_natCast,zaS]
  exact zlK a b c d e w h
 ·have h':mayB a b c d e=false:=by simpa using h
  rw [zrg h',zpA h']
  exact (zoj a b c d e w h').mono fun _ w' ⟨h1,h2⟩=>⟨none,0,h1,By.nil_ w',h2⟩
end Go.Proofs.YtdbpdhlecgoclaaGreatDoor
