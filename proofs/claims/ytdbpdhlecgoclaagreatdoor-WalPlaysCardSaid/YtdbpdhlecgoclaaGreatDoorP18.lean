/-
  The contracts of the document's own Wide,First,Where: they answer as the plain facts say,and leave the memory as it was.
-/
import Derived.Test.YtdbpdhlecgoclaaGreatDoorP00
import Derived.Test.YtdbpdhlecgoclaaGreatDoorP01
import Derived.Test.YtdbpdhlecgoclaaGreatDoorP04
import Derived.Test.YtdbpdhlecgoclaaGreatDoorP05
import Derived.Test.YtdbpdhlecgoclaaGreatDoorP06
import Derived.Test.YtdbpdhlecgoclaaGreatDoorP07
import Derived.Test.YtdbpdhlecgoclaaGreatDoorP08
import Derived.Test.YtdbpdhlecgoclaaGreatDoorP12
import Derived.Test.YtdbpdhlecgoclaaGreatDoorP13
import Derived.Test.YtdbpdhlecgoclaaGreatDoorP15
import Derived.Test.YtdbpdhlecgoclaaGreatDoorP16
import Derived.Test.YtdbpdhlecgoclaaGreatDoorP17
import Derived.Test.YtdbpdhlecgoclaaGreatDoorProg
import Derived.WalkKit
import Derived.WalkSpells
import Derived.WalkLawsBesides
import Derived.BigQuiet
import Derived.Lib.Hide
import Derived.Outline
import Derived.Deep.RegionHeld3
import Derived.RangeFuncNested
import Derived.RangeFuncBound
import Derived.RangeFuncCalls
import Derived.RangeFuncLeaves
import Derived.Shelf.Abstract
import Derived.Shelf.RegionOpen
import Derived.OwnWalkIn
import Derived.TacticsInMore
import Derived.LoopNIn
import Derived.LoopIn
import Derived.RangeFuncBox
import Derived.Maps.AppendAt
namespace Go.Proofs.YtdbpdhlecgoclaaGreatDoor
set_option maxRecDepth 100000
set_option maxHeartbeats 6400000
open Go Go.RowKit
theorem zeH (r:Int) (w:World) :
 Calls Tryz.prog 84 #[.int .i64 r] w fun e w'=>e=.returned (.int .i64 (wid r))∧w=w':=by
 by_cases h:r<1∨5<r
 ·have HF:=qj (zjW h)
  have g1:(r == 1)=false:=by simp;omega
  have g2:(r == 2)=false:=by simp;omega
  have g3:(r == 3)=false:=by simp;omega
  have g4:(r == 4)=false:=by simp;omega
  have g5:(r == 5)=false:=by simp;omega
  clear h
  go_enter Tryz.func84,Tryz.ntmps84
  go_wp2_with fail
  go_ret
  exact ⟨by rw [HF.out];rfl,rfl⟩
 ·rcases zcv (r:=r) (by omega) with rfl | rfl | rfl | rfl | rfl
  all_goals
   go_enter Tryz.func84,Tryz.ntmps84
   go_wp2_with fail
   go_ret
   exact ⟨rfl,rfl⟩
def NF (r p:Int) (a q:Nat):Prop:=¬(1≤r∧r<a∧0≤p∧p<plc r)∧¬(r=a∧0≤p∧p<q)
theorem NF.zero (r p:Int):NF r p 1 0:=⟨by omega,by omega⟩
theorem NF.step {r p:Int} {a q:Nat} (h:NF r p a q) (hn:¬(r=a∧p=q)):NF r p a (q+1):=⟨h.1,by have:=h.2;omega⟩
theorem NF.next {r p:Int} {a q:Nat} (h:NF r p a q) (hq:q=plc a):NF r p (a+1) 0:=by
 subst hq
 refine ⟨?_,by omega⟩
 rintro ⟨h1,h2,h3,h4⟩
 by_cases e:r=a
 ·subst e;exact h.2 ⟨rfl,h3,h4⟩
 ·exact h.1 ⟨h1,by omega,h3,h4⟩
theorem NF.end_ {r p:Int} (h:NF r p 6 0):zai r p=-1:=by
 refine zeL ?_
 rintro ⟨h1,h2⟩
 have:=zgJ (r:=r) (by omega)
 exact h.1 ⟨this.1,by omega,h1,h2⟩
theorem zsg (a q:Nat):beg a+(q+1) * wid a=beg a+q * wid a+wid a:=by rw [Nat.succ_mul];omega
theorem zuU {a q:Nat} (ha:a≤5) (hq:q≤plc a):beg a+q * wid a≤beg ((a:Int)+1):=by
 rw [zhC a ha]
 have:=Nat.mul_le_mul_right (wid a) hq
 omega
theorem zhi (r p:Int) (w:World) :
 Calls Tryz.prog 85 #[r,p] w fun e w'=>e=.returned (.int .i64 (zai r p))∧w=w':=by
 go_enter Tryz.func85,Tryz.ntmps85
 go_wp2_with fail
 go_loop [5,6] (fun t i=>∃a:Nat,1≤a∧a≤6∧i=.int .i64 a∧t=.int .i64 (beg a)∧Hid (NF r p a 0)) (fun _ i=>6-(intOf i).toNat)
 case atStart=>exact ⟨1,by omega,by omega,rfl,rfl,qj (NF.zero r p)⟩
 case round =>
  obtain ⟨a,ha1,ha6,rfl,rfl,HN⟩:=hrel
  by_cases hlt:a≤5
  ·have ha':(a:Int)≤5:=by omega
   go_wp2_with fail
   go_loop [5,7] (fun t i=>∃q:Nat,q≤plc a∧i=.int .i64 q∧t=.int .i64 (beg a+q * wid a:Nat)∧Hid (NF r p a q)) (fun _ i=>plc a-(intOf i).toNat)
   case atStart=>exact ⟨0,Nat.zero_le _,rfl,by simp,HN⟩
   case round =>
    obtain ⟨q,hq,rfl,rfl,HN⟩:=hrel
    have HAt:=qj (zsg a q)
    have hle:=zuU hlt hq
    have hb:=zjB ((a:Int)+1)
    have hw:=zgg a
    have hpl:=zeZ a
    generalize hm:beg a+q * wid a=m at *
    have HM:=qj hm
    clear hm
    by_cases hql:q<plc a
    ·by_cases hin:r=a∧p=q
     ·obtain ⟨rfl,rfl⟩:=hin
      go_wp2_with (go_at_call 142;refine (zaw _ _).mono ?_;rintro e w' ⟨rfl,rfl⟩)
      go_ret
      exact ⟨by rw [zfb (by omega),←HM.out];simp,rfl⟩
     ·have HN':=qj (HN.out.step hin)
      by_cases hra:r=a
      ·subst hra
       have hpq:((q:Int) == p)=false:=by simp;omega
       clear hin
       go_wp2_with (first | (go_at_call 142;refine (zaw _ _).mono ?_;rintro e w' ⟨rfl,rfl⟩) | (go_at_call 84;refine (zeH _ _).mono ?_;rintro e w' ⟨rfl,rfl⟩))
       go_round
       case rel=>exact ⟨q+1,by omega,by go_num,by rw [HAt.out];go_num,HN'⟩
       case measure=>simp [intOf];omega
      ·have hra':((a:Int) == r)=false:=by simp;omega
       clear hin hra
       go_wp2_with (first | (go_at_call 142;refine (zaw _ _).mono ?_;rintro e w' ⟨rfl,rfl⟩) | (go_at_call 84;refine (zeH _ _).mono ?_;rintro e w' ⟨rfl,rfl⟩))
       go_round
       case rel=>exact ⟨q+1,by omega,by go_num,by rw [HAt.out];go_num,HN'⟩
       case measure=>simp [intOf];omega
    ·have HQ:Hid (q=plc a):=qj (by omega)
     have HB:=qj (zhC a hlt)
     go_wp2_with (go_at_call 142;refine (zaw _ _).mono ?_;rintro e w' ⟨rfl,rfl⟩)
     go_round
     case rel=>exact ⟨a+1,by omega,by omega,by go_num,by rw [show ((a+1:Nat):Int)=(a:Int)+1 from rfl,HB.out,←HQ.out,HM.out],qj (HN.out.next HQ.out)⟩
     case measure=>simp [intOf];omega
  ·have HF:Hid (zai r p=-1):=by
    obtain rfl:a=6:=by omega
    exact qj HN.out.end_
   go_wp2_with fail
   go_ret
   exact ⟨by rw [HF.out];rfl,rfl⟩
def DM.cb (m:DM) (g p:Int):List Nat:=(m.read (zai g p)).1
def DM.putC (m:DM) (s:Int) (L:List Nat):Int × DM:=if (m.write s L).1≠0 then m.write s L else (m.write s L).2.flush
section
set_option maxRecDepth 100000
end
section
variable {m:DM} {pw:Int} {s:Nat} {L:List Nat}
end
section
variable {m:DM} {pw:Int} {a b:Nat} {La Lb:List Nat}
end
def znF (h:Int→Bool) (a:Int) (n:Nat):List Int:=((List.range n).map fun k=>a+((k:Nat):Int)).filter h
theorem ztK {h:Int→Bool} {a:Int} {n:Nat} {s:Int}:s∈znF h a n↔h s=true∧a≤s∧s<a+n:=by
 unfold znF
 rw [List.mem_filter,List.mem_map]
 constructor
 ·rintro ⟨⟨k,hk,rfl⟩,hh⟩
  rw [List.mem_range] at hk
  exact ⟨hh,by omega,by omega⟩
 ·rintro ⟨hh,h1,h2⟩
  exact ⟨⟨(s-a).toNat,by rw [List.mem_range];omega,by omega⟩,hh⟩
def zfg (h:Int→Bool) (a:Int) (n:Nat):Bool:=(List.range n).any fun k=>h (a+((k:Nat):Int))
theorem ziI {h:Int→Bool} {a:Int} {n:Nat}:zfg h a n=true↔∃s,h s=true∧a≤s∧s<a+n:=by
 unfold zfg
 rw [List.any_eq_true]
 constructor
 ·rintro ⟨k,hk,hh⟩
  rw [List.mem_range] at hk
  exact ⟨_,hh,by omega,by omega⟩
 ·rintro ⟨s,hh,h1,h2⟩
  refine ⟨(s-a).toNat,by rw [List.mem_range];omega,?_⟩
  rw [show a+(((s-a).toNat:Nat):Int)=s by omega]
  exact hh
theorem zhj (h:Int→Bool) (a:Int):zfg h a 0=false:=rfl
theorem zcO (h:Int→Bool) (a:Int) (n:Nat):zfg h a (n+1)=(zfg h a n || h (a+(n:Int))):=by
 unfold zfg
 rw [List.range_succ,List.any_append]
 simp
theorem zkV (p q:Nat) (w:World) (h:p * q≤9000000000000000000) :
 (cL 114 #[.agg #[.int .i64 p,.int .i64 q]] w (.int .i64 (p * q:Nat)):Prop):=by
 have h':((p:Int) * (q:Int))=((p * q:Nat):Int):=by simp
 have HM:=qj h'
 have h0:(0:Int)≤(p:Int) * (q:Int):=by rw [h'];omega
 have h1:(p:Int) * (q:Int)≤9000000000000000000:=by rw [h'];omega
 clear h h'
 go_enter Tryz.func114,Tryz.ntmps114
 go_wp2
 go_ret
 exact ⟨by rw [←HM.out];rfl,(Ext.refl w).alloc _⟩
theorem zfm (r:Int) (w:World) (hL:zbo w) :
 (cL 73 #[.int .i64 r] w (.int .i64 (wid r)):Prop):=by
 have HL:=qj hL
 have hf:=zlA
 clear hL
 go_enter Tryz.func73,Tryz.ntmps73
 go_wp2_with fail
 refine (zig r _ HL.out).mono ?_
 rintro e w1 ⟨rfl,hx⟩
 have HX:=qj hx
 clear hx
 go_wp2_with fail
 go_ret
 exact ⟨rfl,HX.out⟩
theorem zjm (r:Nat) (w:World) (hL:zbo w) (hr:r≤6) :
 (cL 57 #[.int .i64 r] w (.int .i64 (beg r)):Prop):=by
 have HL:=qj hL
 clear hL
 go_enter Tryz.func57,Tryz.ntmps57
 go_wp2_with fail
 go_loopw [3,6] (fun b i wr=>∃k:Nat,k≤r∧i=.int .i64 k∧b=.int .i64 (beg k)∧Hid (Ext w wr)) (fun _ i _=>r-(intOf i).toNat)
 case atStart=>exact ⟨0,Nat.zero_le _,rfl,rfl,qj (Ext.refl w)⟩
 case round =>
  obtain ⟨k,hk,rfl,rfl,HX⟩:=hrel
  by_cases hlt:k<r
  ·have HB:=qj (zhC k (by omega))
   have hb:=zjB k
   have hp:=ztx k
   go_wp2_with fail
   refine (zig k _ (HL.out.ext HX.out)).mono ?_
   rintro e w1 ⟨rfl,hx⟩
   have HX:=qj (HX.out.trans hx)
   clear hx
   go_wp2_with fail
   refine (zkV _ _ _ (by omega)).mono ?_
   rintro e w2 ⟨rfl,hx⟩
   have HX:=qj (HX.out.trans hx)
   clear hx
   go_wp2_with fail
   go_roundw
   case rel=>exact ⟨k+1,by omega,by go_num,by rw [show ((k+1:Nat):Int)=(k:Int)+1 from rfl,HB.out];go_num,HX⟩
   case measure=>simp [intOf];omega
  ·have HK:Hid (k=r):=qj (by omega)
   go_wp2_with fail
   go_ret
   exact ⟨by rw [HK.out];rfl,HX.out⟩
theorem zeB (w:World) (hL:zbo w) :
 (cL 23 #[] w (.int .i64 156):Prop):=by
 have HL:=qj hL
 clear hL
 go_enter Tryz.func23,Tryz.ntmps23
 go_wp2_with fail
 refine (zjm 6 _ HL.out (by omega)).mono ?_
 rintro e w1 ⟨rfl,hx⟩
 have HX:=qj hx
 clear hx
 go_wp2_with fail
 go_ret
 exact ⟨rfl,HX.out⟩
theorem zeK (r p:Int) (w:World) (hL:zbo w) :
 (cL 48 #[r,p] w (.int .i64 (zai r p)):Prop):=by
 have HL:=qj hL
 clear hL
 by_cases h0:p<0
 ·have HF:=qj (zeL (r:=r) (p:=p) (by omega))
  go_enter Tryz.func48,Tryz.ntmps48
  go_wp2_with fail
  go_ret
  exact ⟨by rw [HF.out];rfl,Ext.refl w⟩
 by_cases h1:(plc r:Int)≤p
 ·have HF:=qj (zeL (r:=r) (p:=p) (by omega))
  go_enter Tryz.func48,Tryz.ntmps48
  go_wp2_with fail
  refine (zeQ r _ HL.out).mono ?_
  rintro e w1 ⟨rfl,hx⟩
  have HX:=qj hx
  clear hx
  go_wp2_with fail
  go_ret
  exact ⟨by rw [HF.out];rfl,HX.out⟩
 have hr:=zgJ (r:=r) (by omega)
 obtain ⟨r,rfl⟩:=Int.eq_ofNat_of_zero_le (show 0≤r by omega)
 have HF:=qj (zfb (r:=r) (p:=p) (by omega))
 have hb:=zjB r
 have hpl:=zeZ r
 have hw0:=zgg r
 have h2:0≤p * (wid r:Int):=Int.mul_nonneg (by omega) (by omega)
 have h3:p * (wid r:Int)≤48 * 2:=Int.mul_le_mul (by omega) (by omega) (by omega) (by omega)
 go_enter Tryz.func48,Tryz.ntmps48
 go_wp2_with fail
 refine (zeQ r _ HL.out).mono ?_
 rintro e w1 ⟨rfl,hx⟩
 have HX:=qj hx
 clear hx
 go_wp2_with fail
 refine (zjm r _ (HL.out.ext HX.out) (by omega)).mono ?_
 rintro e w2 ⟨rfl,hx⟩
 have HX:=qj (HX.out.trans hx)
 clear hx
 go_wp2_with fail
 refine (zfm r _ (HL.out.ext HX.out)).mono ?_
 rintro e w3 ⟨rfl,hx⟩
 have HX:=qj (HX.out.trans hx)
 clear hx
 go_wp2_with fail
 go_ret
 exact ⟨by rw [HF.out];rfl,HX.out⟩

structure DK (w0 w:World) (d:Nat) (F:Nat→Prop) (m:DM):Prop where
 disk:zao w d F m
 low:∀k,F k→w0.heap.size≤k
 bel:Ext w0 w
theorem DK.ext {w0 w w':World} {d:Nat} {F:Nat→Prop} {m:DM} (h:DK w0 w d F m) (k:Ext w w'):DK w0 w' d F m:=⟨h.disk.ext k,h.low,h.bel.trans k⟩
theorem DK.step {w0 w w':World} {d:Nat} {F:Nat→Prop} {m m':DM} (h:DK w0 w d F m) (hp:zao w' d (grow F w w') m') (hm:Mod F w w'):DK w0 w' d (grow F w w') m' :=
 ⟨hp,fun k hk=>hk.elim (h.low k) fun h2=>Nat.le_trans h.bel.size h2.1,Below.mod h.bel hm h.bel.size h.low⟩
theorem DK.mod {w0 w w':World} {d:Nat} {F G:Nat→Prop} {m:DM} (h:DK w0 w d F m) (hm:Mod G w w') (hG:∀k,F k→¬G k) (hl:∀k,G k→w0.heap.size≤k):DK w0 w' d F m :=
 ⟨h.disk.mod hm hG,h.low,Below.mod h.bel hm h.bel.size hl⟩
theorem DK.vs {w0 w:World} {d:Nat} {F:Nat→Prop} {m:DM} (h:DK w0 w d F m) {A:Option Addr} {n c:Nat} {vs:List Value} (hv:Vs w0 w0.heap.size A n c vs):0<n→Off F A:=fun hn p hp hf=>by
 obtain ⟨g,o,e,hg,_⟩:=hv.rd hn
 rw [e] at hp
 injection hp with hp
 subst hp
 have:=h.low _ hf
 have hg':g<w0.heap.size:=hg
 have:w0.heap.size≤g:=this
 omega
def ztZ (n:Nat) (l:List Act5) (w:World) (e:Ending) (w':World):Prop:=∃b:Bool,e=.returned (.bool b)∧w=w'∧(b=false→n≤120∧∀a∈l,a.bn≤200∧a.kn≤100)
theorem zpE {w:World} {B:Nat} (A:Option Addr) (n c:Nat) (l:List Act5) (h:Acts w B A n c l) :
 Calls Tryz.prog 56 #[.slice A n c] w (ztZ n l w):=by
 have HA:=qj h
 have hn:=Nat.zero_le n
 clear h
 go_enter Tryz.func56,Tryz.ntmps56
 by_cases hn120:120<n
 ·go_wp2_with fail
  go_ret
  exact ⟨true,rfl,rfl,fun h=>by cases h⟩
 go_wp2_with fail
 go_loopw [3] (fun i wr=>∃k:Nat,k≤n∧i=.int .i64 k∧wr=w∧Hid (∀a∈l.take k,a.bn≤200∧a.kn≤100)) (fun i _=>n-(intOf i).toNat)
 case atStart=>exact ⟨0,Nat.zero_le _,rfl,rfl,qj fun a ha=>by simp at ha⟩
 case round =>
  obtain ⟨k,hkn,rfl,rfl,HT⟩:=hrel
  by_cases hlt:k<n
  ·obtain ⟨g,o,a,rfl,hg,ha,hok,h0,h1,h2,h3,h4⟩:=HA.out.at_ hlt
   have HAL:=qj ha
   by_cases hb:200<a.bn
   ·clear ha hok
    go_wp2_with fail
    go_ret
    exact ⟨true,rfl,rfl,fun h=>by cases h⟩
   ·by_cases hk:100<a.kn
    ·clear ha hok
     go_wp2_with fail
     go_ret
     exact ⟨true,rfl,rfl,fun h=>by cases h⟩
    ·clear ha hok
     go_wp2_with fail
     go_roundw
     case rel=>exact ⟨k+1,by omega,by go_num,by first | rfl | trivial,qj fun b hb'=>by
      rw [List.take_add_one,HAL.out] at hb'
      rcases List.mem_append.1 hb' with h | h
      ·exact HT.out b h
      ·simp only [Option.toList_some,List.mem_singleton] at h
       subst h
       exact ⟨by omega,by omega⟩⟩
     case measure=>simp [intOf];omega
  ·go_wp2_with fail
   go_ret
   refine ⟨false,rfl,rfl,fun _=>⟨by omega,fun a ha=>HT.out a ?_⟩⟩
   rw [List.take_of_length_le (by have:=HA.out.len;omega)]
   exact ha
def DM.puts (m:DM) (s:Int) (L:List Nat):Nat→DM
 | 0=>m
 | k+1=>((m.puts s L k).write (s+(k:Int)) ((L.drop (64 * k)).take 64)).2
def zdJ (a b c d e:Int):Nat:=if mayB a b c d e=true then wid b else 0
theorem zhW (a b c d e:Int):zdJ a b c d e≤2:=by
 unfold zdJ
 split
 ·exact zgg b
 ·omega
def Act6.sE (x:Act6):Int:=sealE x.ta x.tb x.tc x.td x.te x.bn (zdJ x.ta x.tb x.tc x.td x.te:Nat)
def Act6.sL (x:Act6):List Nat:=sealL x.ta x.tb x.tc x.td x.te x.bl (zdJ x.ta x.tb x.tc x.td x.te:Nat)
def DM.act6 (m:DM) (x:Act6):DM :=
 if x.sl=true then (if x.sE=0 then m.puts (zai x.tb x.tc) x.sL (zdJ x.ta x.tb x.tc x.td x.te) else m) else (m.act x.act.kind x.act.sec x.act.num x.act.bl x.act.kl).2
theorem zeT (m:DM) (s:Int) (L:List Nat) (k:Nat):(m.puts s L k).waits.length≤m.waits.length+k:=by
 induction k with
 | zero=>exact Nat.le_refl _
 | succ k ih =>
  unfold DM.puts DM.write
  split
  ·show (m.puts s L k).waits.length≤_;omega
  ·split
   ·show (m.puts s L k).waits.length≤_;omega
   ·split
    ·show (m.puts s L k).waits.length≤_;omega
    ·simp;omega
theorem zmx (m:DM) (x:Act6):(m.act6 x).waits.length≤m.waits.length+2:=by
 unfold DM.act6
 split
 ·split
  ·have h1:=zeT m (zai x.tb x.tc) x.sL (zdJ x.ta x.tb x.tc x.td x.te)
   have h2:=zhW x.ta x.tb x.tc x.td x.te
   omega
  ·omega
 ·have:=zpb m x.act.kind x.act.sec x.act.num x.act.bl x.act.kl
  omega
theorem zjb (a b c d e:Int) (w:World) (hL:zbo w) :
 Calls Tryz.prog 46 #[.agg #[.int .i64 a,.int .i64 b,.int .i64 c,.int .i64 d,.int .i64 e]] w fun r w'=>r=.returned (.int .i64 (zdJ a b c d e:Nat))∧Ext w w':=by
 have hE:=(Ext.refl w).alloc (.cells #[.int .i64 a,.int .i64 b,.int .i64 c,.int .i64 d,.int .i64 e] 44)
 have HT:=qj (heap_alloc_new w (.cells #[.int .i64 a,.int .i64 b,.int .i64 c,.int .i64 d,.int .i64 e] 44))
 have HE:=qj hE
 have HL:=qj hL
 clear hE hL
 obtain ⟨W,hW⟩:∃W,zdJ a b c d e=W:=⟨_,rfl⟩
 rw [hW]
 by_cases hm:mayB a b c d e=true
 ·have HW:Hid (wid b=W):=qj (by rw [←hW];unfold zdJ;rw [if_pos hm])
  clear hW
  go_enter Tryz.func46,Tryz.ntmps46
  go_wp2_with fail
  refine (zcw _ _ _ _ _ _ (HL.out.ext HE.out)).mono ?_
  rw [hm]
  rintro r w1 ⟨rfl,hx⟩
  have ht:=(hx.block _ (Array.getElem?_eq_some_iff.1 HT.out).1).trans HT.out
  have HE:=qj (HE.out.trans hx)
  obtain ⟨⟨i0,i1,i2,i3,i4⟩,_⟩:=zac ht
  clear hx ht hm
  go_wp2_with fail
  refine (zfm _ _ (HL.out.ext HE.out)).mono ?_
  rw [HW.out]
  rintro r w2 ⟨rfl,hx⟩
  have HE:=qj (HE.out.trans hx)
  clear hx
  go_wp2_with fail
  go_ret
  exact ⟨rfl,HE.out⟩
 ·have hm':mayB a b c d e=false:=by simpa using hm
  have HW:Hid (W=0):=qj (by rw [←hW];unfold zdJ;rw [if_neg hm])
  clear hW hm
  go_enter Tryz.func46,Tryz.ntmps46
  go_wp2_with fail
  refine (zcw _ _ _ _ _ _ (HL.out.ext HE.out)).mono ?_
  rw [hm']
  rintro r w1 ⟨rfl,hx⟩
  have HE:=qj (HE.out.trans hx)
  clear hx hm'
  go_wp2_with fail
  go_ret
  exact ⟨by rw [HW.out];rfl,HE.out⟩
def zsK (n:Nat) (l:List Act6) (w:World) (e:Ending) (w':World):Prop:=∃b:Bool,e=.returned (.bool b)∧Ext w w'∧(b=false→n≤60∧∀a∈l,a.bn≤100∧a.act.bn≤200∧a.act.kn≤100)
theorem zoo (w:World) (a:Act5) (h:a.Ok w w.heap.size):Acts (w.alloc (.cells #[a.kind,a.sec,a.num,.slice a.bA a.bn a.bc,.slice a.kA a.kn a.kc] 48)) (w.alloc (.cells #[a.kind,a.sec,a.num,.slice a.bA a.bn a.bc,.slice a.kA a.kn a.kc] 48)).heap.size (some ⟨w.heap.size,0,none⟩) 1 1 [a]:=by
 refine ⟨rfl,Nat.le_refl _,by omega,fun b hb=>?_,fun _=>⟨w.heap.size,0,rfl,by simp,fun j b hb k v hv=>?_⟩,fun h=>by cases h⟩
 ·obtain rfl:=List.mem_singleton.1 hb
  exact (h.below ((Ext.refl w).alloc _)).more ((Ext.refl w).alloc _).size
 ·match j,hb with
  | 0,hb =>
   injection hb with hb
   subst hb
   rw [World.cell?_alloc_new]
   rw [show 0+(0 * 5+k)=k by omega]
   exact (List.getElem?_toArray ..).trans hv
theorem zoO {w:World} {B:Nat} (hBw:B≤w.heap.size) (A:Option Addr) (n c:Nat) (l:List Act6) (h:Acts6 w B A n c l) :
 Calls Tryz.prog 21 #[.slice A n c] w (zsK n l w):=by
 have HA:=qj h
 have hn:=Nat.zero_le n
 have HBW:=qj hBw
 clear h hBw
 go_enter Tryz.func21,Tryz.ntmps21
 by_cases hn120:60<n
 ·go_wp2_with fail
  go_ret
  exact ⟨true,rfl,Ext.refl _,fun h=>by cases h⟩
 go_wp2_with fail
 go_loopw [3] (fun i wr=>∃k:Nat,k≤n∧i=.int .i64 k∧Hid (Ext w wr)∧Hid (∀a∈l.take k,a.bn≤100∧a.act.bn≤200∧a.act.kn≤100)) (fun i _=>n-(intOf i).toNat)
 case atStart=>exact ⟨0,Nat.zero_le _,rfl,qj (Ext.refl _),qj fun a ha=>by simp at ha⟩
 case round =>
  obtain ⟨k,hkn,rfl,HX,HT⟩:=hrel
  by_cases hlt:k<n
  ·obtain ⟨g,o,a,rfl,hg,ha,hok,hc⟩:=HA.out.at_ hlt
   have HAL:=qj ha
   have HOK:Hid (a.act.Ok wr wr.heap.size):=qj ((hok.act.below (HX.out.mono HBW.out)).more (Nat.le_trans HBW.out HX.out.size))
   obtain ⟨h0,h1,h2,h3,h4,h5,h6,h7,h8,h9,h10,h11⟩:=hc.below (HX.out.mono HBW.out) hg
   by_cases hb:100<a.bn
   ·clear ha hok hc
    go_wp2_with fail
    go_ret
    exact ⟨true,rfl,HX.out,fun h=>by cases h⟩
   ·clear ha hok hc h0 h1 h2 h3 h4 h5
    go_wp2_with fail
    refine (zpE _ 1 1 [a.act] (zoo wr a.act HOK.out)).mono ?_
    rintro e w2 ⟨b,rfl,rfl,hgr⟩
    have HX2:=qj (HX.out.alloc (.cells #[a.act.kind,a.act.sec,a.act.num,.slice a.act.bA a.act.bn a.act.bc,.slice a.act.kA a.act.kn a.act.kc] 48))
    have HGR:=qj hgr
    clear hgr
    cases b with
    | true =>
     go_wp2_with fail
     go_ret
     exact ⟨true,rfl,HX2.out,fun h=>by cases h⟩
    | false =>
     go_wp2_with fail
     go_roundw
     case rel=>exact ⟨k+1,by omega,by go_num,HX2,qj fun b hb'=>by
      rw [List.take_add_one,HAL.out] at hb'
      rcases List.mem_append.1 hb' with h | h
      ·exact HT.out b h
      ·simp only [Option.toList_some,List.mem_singleton] at h
       subst h
       have:=(HGR.out (by trivial)).2 b.act (List.mem_singleton.2 rfl)
       exact ⟨by omega,this.1,this.2⟩⟩
     case measure=>simp [intOf];omega
  ·go_wp2_with fail
   go_ret
   refine ⟨false,rfl,HX.out,fun _=>⟨by omega,fun a ha=>HT.out a ?_⟩⟩
   rw [List.take_of_length_le (by have:=HA.out.len;omega)]
   exact ha
theorem zlY {a b c d e s:Int} {n:Nat}:sealE a b c d e n s=0↔roomN s≠0∧mayB a b c d e=true∧n≤roomN s:=by
 constructor
 ·intro h
  by_cases h1:roomN s=0∨mayB a b c d e=false
  ·rw [zeG h1] at h;cases h
  ·have h0:roomN s≠0:=fun hh=>h1 (.inl hh)
   have hm:mayB a b c d e=true:=by
    by_cases hm:mayB a b c d e=true
    ·exact hm
    ·exact absurd (.inr (by simpa using hm)) h1
   refine ⟨h0,hm,?_⟩
   rcases Nat.lt_or_ge (roomN s) n with h2 | h2
   ·rw [zdF h0 hm h2] at h;cases h
   ·exact h2
 ·rintro ⟨h0,hm,hn⟩
  exact zbD h0 hm hn
theorem zbd {a b c d e s:Int} {body:List Nat} (h:sealE a b c d e body.length s=0):(sealL a b c d e body s).length=64 * s.toNat∧1≤s∧s≤2:=by
 obtain ⟨h0,hm,hn⟩:=zlY.1 h
 obtain ⟨S,rfl⟩:=Int.eq_ofNat_of_zero_le (show 0≤s by have:=zev (s:=s) (by omega);omega)
 have hfit:=zdq hn (by omega)
 rw [zex h,Int.toNat_natCast,zeS (by rw [zdd hm,zaS]) (by omega) (by omega)]
 omega
def box6 (x:Act6):Obj:=.cells #[.bool x.sl,.int .i64 x.ta,.int .i64 x.tb,.int .i64 x.tc,.int .i64 x.td,.int .i64 x.te,.slice x.bA x.bn x.bc,.int .u8 (x.act.kind:Int),.int .i64 x.act.sec,.int .i64 x.act.num,.slice x.act.bA x.act.bn x.act.bc,.slice x.act.kA x.act.kn x.act.kc] 50
theorem zdI {w:World} {g:Nat} {x:Act6} (h:w.heap[g]?=some (box6 x)):w.cell? (aD g 0)=some (.bool x.sl)∧w.cell? (aD g 1)=some (.int .i64 x.ta)∧w.cell? (aD g 2)=some (.int .i64 x.tb)∧w.cell? (aD g 3)=some (.int .i64 x.tc)∧w.cell? (aD g 4)=some (.int .i64 x.td)∧w.cell? (aD g 5)=some (.int .i64 x.te) ∧
 w.cell? (aD g 6)=some (.slice x.bA x.bn x.bc)∧w.cell? (aD g 7)=some (.int .u8 (x.act.kind:Int))∧w.cell? (aD g 8)=some (.int .i64 x.act.sec)∧w.cell? (aD g 9)=some (.int .i64 x.act.num)∧w.cell? (aD g 10)=some (.slice x.act.bA x.act.bn x.act.bc)∧w.cell? (aD g 11)=some (.slice x.act.kA x.act.kn x.act.kc) :=
 ⟨cell_of_row w g 0 _ _ _ h,cell_of_row w g 1 _ _ _ h,cell_of_row w g 2 _ _ _ h,cell_of_row w g 3 _ _ _ h,cell_of_row w g 4 _ _ _ h,cell_of_row w g 5 _ _ _ h,cell_of_row w g 6 _ _ _ h,cell_of_row w g 7 _ _ _ h,cell_of_row w g 8 _ _ _ h,cell_of_row w g 9 _ _ _ h,cell_of_row w g 10 _ _ _ h,cell_of_row w g 11 _ _ _ h⟩
theorem By.piece {w:World} {g o n c:Nat} {l:List Nat} (h:By w (some ⟨g,o,none⟩) n c l) (k:Nat) (hk:k+64≤n):By w (some ⟨g,o+k,none⟩) 64 (c-k) ((l.drop k).take 64):=by
 have hl:=h.len
 have hc:=h.cap
 refine ⟨by rw [List.length_take,List.length_drop];omega,by omega,by have:=h.most;omega,(h.rd.drop rfl k).take 64,fun e=>by cases e⟩
structure Left (w0 w:World) (d:Nat) (F:Nat→Prop) (G:Nat→Prop) (v:World) (m:DM):Prop where
 dk:DK w0 v d F m
 le:∀i,F i→G i
 mod:Mod G w v
theorem Left.step {w0 w v v':World} {d:Nat} {F G:Nat→Prop} {m m':DM} (h:Left w0 w d F G v m) (hG:∀i,v.heap.size≤i→G i) (hp:zao v' d (grow F v v') m') (hm:Mod F v v'):Left w0 w d (grow F v v') G v' m' :=
 ⟨h.dk.step hp hm,fun i hi=>hi.elim (h.le i) fun hh=>hG i hh.1,h.mod.trans hm fun i hi=>.inl (h.le i hi)⟩
theorem Left.ext {w0 w v v':World} {d:Nat} {F G:Nat→Prop} {m:DM} (h:Left w0 w d F G v m) (hx:Ext v v'):Left w0 w d F G v' m:=⟨h.dk.ext hx,h.le,h.mod.ext hx⟩
theorem zkW {u V w':World} {g:Nat} {x0 x1 x2 x3 x4 x5 x6 x7 x8 x9 x10 x11:Value} {t:TypeId} (k:Hid (Ext u w')) (hV:u=V.drew) (h:Hid (V.heap[g]?=some (.cells #[x0,x1,x2,x3,x4,x5,x6,x7,x8,x9,x10,x11] t (0,0)))) :
 w'.cell? (aD g 1)=some x1∧w'.cell? (aD g 2)=some x2∧w'.cell? (aD g 3)=some x3∧w'.cell? (aD g 4)=some x4∧w'.cell? (aD g 5)=some x5∧w'.cell? (aD g 6)=some x6:=by
 subst hV
 have h2:=(k.out.block g (Array.getElem?_eq_some_iff.1 h.out).1).trans h.out
 exact ⟨cell_of_row w' g 1 _ _ _ h2,cell_of_row w' g 2 _ _ _ h2,cell_of_row w' g 3 _ _ _ h2,cell_of_row w' g 4 _ _ _ h2,cell_of_row w' g 5 _ _ _ h2,cell_of_row w' g 6 _ _ _ h2⟩
theorem ziZ {u w':World} {g:Nat} {x0 x1 x2 x3 x4 x5 x6 x7 x8 x9 x10 x11:Value} {t:TypeId} {G:Nat→Prop} (k:Hid (Mod G u w')) (hg:Hid (¬G g)) (h:Hid (u.heap[g]?=some (.cells #[x0,x1,x2,x3,x4,x5,x6,x7,x8,x9,x10,x11] t (0,0)))) :
 w'.cell? (aD g 2)=some x2∧w'.cell? (aD g 3)=some x3:=by
 have h2:=zah h.out k.out hg.out
 exact ⟨cell_of_row w' g 2 _ _ _ h2,cell_of_row w' g 3 _ _ _ h2⟩
theorem zeI (g p:Int):-1≤zai g p∧zai g p≤156:=by
 have h1:=zjB g
 have h2:=zgg g
 by_cases hh:0≤p∧p<plc g
 ·rw [zfb hh]
  have hr:=zgJ (r:=g) (by omega)
  rcases zcv hr with rfl | rfl | rfl | rfl | rfl <;> simp [beg,plc,wid] at hh ⊢ <;> omega
 ·rw [zeL hh];omega
theorem zok {F G:Nat→Prop} {g o o':Nat} (hF:∀i,F i→G i) (h:Off G (some ⟨g,o,none⟩)):Off F (some ⟨g,o',none⟩):=fun p hp hh=>by
 injection hp with hp
 subst hp
 exact h _ rfl (hF _ hh)

structure Gath (w0 w:World) (v:Value) (l:List Nat) (k:Nat):Prop where
 own:w.ownsRow w0.heap.size 5 1 v l.length (vb l)
 lt:∀b∈l,b<256
 few:l.length≤64 * k
 ext:Ext w0 w
theorem Gath.start (w:World):Gath w w (.slice none 0 0) [] 0:=⟨World.ownsRow_nil _ _ _ _,fun b hb=>(by cases hb),by simp,Ext.refl w⟩
theorem Gath.more {w0 w w':World} {v:Value} {l:List Nat} {k:Nat} (h:Gath w0 w v l k) (hx:Ext w w'):Gath w0 w' v l k:=⟨zck h.own hx,h.lt,h.few,h.ext.trans hx⟩
theorem Gath.form {w0 w:World} {v:Value} {l:List Nat} {k:Nat} (h:Gath w0 w v l k):∃A c,v=.slice A l.length c∧By w A l.length c l:=by
 obtain ⟨A,c,rfl,_,_⟩:=zbK h.own
 exact ⟨A,c,rfl,Bs.of_own h.own h.lt⟩
theorem Gath.app {w0 w w':World} {v v':Value} {l l2:List Nat} {k:Nat} (h:Gath w0 w v l k) (hg:w.grownBy w' v.ownBlock) (ho:w'.ownsRow w0.heap.size 5 1 v' (l.length+l2.length) (vb l++vb l2)) (hl:∀b∈l2,b<256) (hn:l2.length≤64):Gath w0 w' v' (l++l2) (k+1):=by
 refine ⟨by rw [List.length_append,zew];exact ho,fun b hb=>(List.mem_append.1 hb).elim (h.lt b) (hl b),?_,Below.grown h.ext hg (Ext.size h.ext) (fun g hg'=>(h.own.lt g hg').1)⟩
 have:=h.few
 rw [List.length_append]
 omega
theorem zeY (m:DM) (s:Int) (b:List Nat):(m.write s b).2.size=m.size:=by
 unfold DM.write
 split
 ·rfl
 ·split
  ·rfl
  ·split <;> rfl
theorem znO (m:DM) (S:Int) (L:List Nat) (k:Nat):(m.puts S L k).size=m.size:=by
 induction k with
 | zero=>rfl
 | succ k ih=>exact (zeY _ _ _).trans ih
theorem zha (m:DM):m.flush.2.size=m.size:=by
 unfold DM.flush
 split
 ·rfl
 ·split
  ·rfl
  ·exact DM.comes_size _ _
theorem zsb (m:DM) (kind:Nat) (sec num:Int) (bytes:List Nat) (keep:List Bool):(m.act kind sec num bytes keep).2.size=m.size:=by
 unfold DM.act
 split
 ·exact zha m
 ·unfold DM.crash;split
  ·rfl
  ·exact DM.comes_size _ _
 ·unfold DM.start;split <;> rfl
 ·unfold DM.flip;split
  ·rfl
  ·simp [DM.size]
 ·unfold DM.lose;split <;> rfl
 ·unfold DM.stray;split
  ·rfl
  ·simp [DM.size]
 ·unfold DM.setPower;split
  ·rfl
  ·split <;> rfl
 ·exact zeY _ _ _
theorem zoK (m:DM) (x:Act6):(m.act6 x).size=m.size:=by
 unfold DM.act6
 split
 ·split
  ·exact znO _ _ _ _
  ·rfl
 ·exact zsb _ _ _ _ _ _


section
variable {g:Int} {x y:List Nat} {v c u d:Nat} {b e:List Nat}
end
section
variable {m:DM} {pw:Int} {g:Int} {v:Nat} {b:List Nat}
end
section
open Go Go.RowKit Go.Shelf
attribute [local go_sem] Oper.semAt_some
theorem zjQ {w w':World} (h:Ext w w'):w.grownBy w' none:=⟨h.os,h.tape,h.output,h.size,fun k hk _=>h.block k hk⟩
theorem zaT {G:Nat→Prop} {w w':World} (k:Mod G w w') {g i:Nat} {v:Value} (hg:¬G g) (h:w.cell? (aD g i)=some v):w'.cell? (aD g i)=some v :=
 (World.cell?_of_block (a:=⟨g,i,none⟩) (k.block g (World.block_lt_of_cell? w _ h) hg)).trans h
theorem zbi {w w':World} {g i:Nat} {v:Value} (h:Ext w w') (hc:w.cell? (aD g i)=some v):w'.cell? (aD g i)=some v:=(Below.cell h (p:=⟨g,i,none⟩) (World.block_lt_of_cell? w _ hc)).trans hc
theorem ztB {G:Nat→Prop} {w W:World} (l:Nat) (o o':Obj) (hG:∀k,w.heap.size≤k→G k) (hl:w.heap.size≤l) (_:W.heap[l]?=some o):Mod G W (W.putObj l o') :=
 (Mod.refl G W).grown (grownBy_putObj' W l o') (fun k e=>by cases e;exact .inl (hG l hl))
end
section
open Go Go.RowKit Go.Shelf
attribute [local go_sem] Oper.semAt_some
end
section
open Go Go.RowKit Go.Shelf
attribute [local go_sem] Oper.semAt_some
end


section
variable {w wr:World} {A X P:Option Addr} {na nx np:Nat} {lp:List Nat}
end
structure Both (w0 w:World) (d r:Nat) (F:Nat→Prop) (p:Nat→Nat) (m m':DM):Prop where
 dk:DK w0 w d F m
 rd:RD w r p m'
 low:∀i,p i≠0→w0.heap.size≤i
 apart:∀i,p i≠0→¬F i
section
variable {w0 w:World} {d r:Nat} {F:Nat→Prop} {p:Nat→Nat} {m m' m2:DM}
theorem Both.ext (h:Both w0 w d r F p m m') {w':World} (k:Ext w w'):Both w0 w' d r F p m m':=⟨h.dk.ext k,h.rd.ext k,h.low,h.apart⟩
theorem Both.heads (h:Both w0 w d r F p m m') {N:Nat} {b4 b5:Bool} (hN:m'.waits.length=N) (h4:m'.down=b4) (h5:m'.dead=b5):∃A c,w.cell? (aD r 3)=some (.slice A N c)∧w.cell? (aD r 4)=some (.bool b4)∧w.cell? (aD r 5)=some (.bool b5):=by
 subst hN h4 h5
 obtain ⟨⟨q,hq⟩,_⟩:=h.rd
 obtain ⟨⟨_,_,_,d3,d4,d5,_⟩,_⟩:=hq.head.cells
 have hpl:∃A c,q.pv=.slice A m'.waits.length c:=by
  obtain ⟨A,c,e,_,_⟩:=zeo hq.pen
  exact ⟨A,c,e⟩
 obtain ⟨A,c,e⟩:=hpl
 rw [e] at d3
 exact ⟨A,c,d3,d4,d5⟩
theorem Both.new {w1 w2:World} {n:Nat} (hx:Ext w0 w) (hp:zao w1 d (fun k=>w.heap.size≤k∧k<w1.heap.size) (DM.new n)) (hx1:Ext w w1) (hr:RD w2 r p (DM.new n)) (hl:∀k,p k≠0→w1.heap.size≤k) (hx2:Ext w1 w2):Both w0 w2 d r (fun k=>w.heap.size≤k∧k<w1.heap.size) p (DM.new n) (DM.new n) :=
 ⟨DK.ext ⟨hp,fun k hk=>Nat.le_trans hx.size hk.1,hx.trans hx1⟩ hx2,hr,fun i hi=>Nat.le_trans (hx.trans hx1).size (hl i hi),fun i hi hf=>by have:=hl i hi;omega⟩
end
def Step (d:Nat) (F:Nat→Prop) (w:World) (m':DM) (w':World):Prop:=zao w' d (grow F w w') m'∧Mod F w w'
theorem zao.more {w:World} {d:Nat} {F G:Nat→Prop} {m:DM} (h:zao w d F m) (hG:∀k,F k→G k) (hl:∀k,G k→k<w.heap.size):zao w d G m:=by
 obtain ⟨g,pv,hp,h2,_⟩:=h
 exact ⟨g,pv,hp,fun k hk=>hG k (h2 k hk),hl⟩
theorem Step.of_ext {w w':World} {d:Nat} {F:Nat→Prop} {m:DM} (h:zao w d F m) (hx:Ext w w'):Step d F w m w' :=
 ⟨(h.ext hx).more (fun _ hk=>.inl hk) (fun k hk=>hk.elim (fun h1=>Nat.lt_of_lt_of_le (h.lt k h1) hx.size) (fun h1=>h1.2)),Mod.of_ext hx⟩
theorem Step.pre {w w1 w2:World} {d:Nat} {F:Nat→Prop} {m:DM} (hx:Ext w w1) (h:Step d F w1 m w2):Step d F w m w2 :=
 ⟨h.1.more (fun _ hi=>hi.imp id fun h1=>⟨Nat.le_trans hx.size h1.1,h1.2⟩) (fun i hi=>hi.elim (fun h1=>h.1.lt i (.inl h1)) (fun h1=>h1.2)),(Mod.of_ext hx).trans h.2 fun _ hi=>.inl hi⟩
end Go.Proofs.YtdbpdhlecgoclaaGreatDoor
