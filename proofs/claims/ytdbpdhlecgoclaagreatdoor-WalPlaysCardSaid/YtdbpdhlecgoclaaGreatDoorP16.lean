/-
  The contract of the frame's Open: what bytes are;the body is the call's own.
-/
import Derived.Test.YtdbpdhlecgoclaaGreatDoorP00
import Derived.Test.YtdbpdhlecgoclaaGreatDoorP01
import Derived.Test.YtdbpdhlecgoclaaGreatDoorP06
import Derived.Test.YtdbpdhlecgoclaaGreatDoorP07
import Derived.Test.YtdbpdhlecgoclaaGreatDoorP08
import Derived.Test.YtdbpdhlecgoclaaGreatDoorP15
import Derived.Lib.SmallJoins
import Derived.Test.YtdbpdhlecgoclaaGreatDoorProg
import Derived.WalkKit
import Derived.WalkSpells
import Derived.BigQuiet
import Derived.Lib.Hide
import Derived.Laws.BitsAllLaws
import Derived.Deep.RegionHeld3
namespace Go.Proofs.YtdbpdhlecgoclaaGreatDoor
set_option maxRecDepth 100000
set_option maxHeartbeats 6400000
open Go Go.RowKit
def zjl (B:Nat) (w':World) (A':Option Addr) (N n:Nat) (l:List Nat):Prop:=0<N→∃g c',A'=some ⟨g,17,none⟩∧17+N≤n∧w'.ownsRow B 5 1 (.slice (some ⟨g,0,none⟩) n c') n (vb l)
theorem znL {w:World} {b b' n:Nat} {e:TypeId} {s:Nat} {v:Value} {xs:List Value} (h:w.ownsRow b e s v n xs) (hb:b'≤b):w.ownsRow b' e s v n xs:=by
 refine ⟨h.1,?_⟩
 rcases h.2 with h0 | ⟨g,cap,cur,hv,hbg,h1⟩
 ·exact .inl h0
 ·exact .inr ⟨g,cap,cur,hv,Nat.le_trans hb hbg,h1⟩
theorem zje {w V:World} {b n g c:Nat} {e:TypeId} {s:Nat} {xs:List Value} (h:w.ownsRow b e s (.slice (some ⟨g,0,none⟩) n c) n xs) (hk:∀o,w.heap[g]?=some o→V.heap[g]?=some o):V.ownsRow b e s (.slice (some ⟨g,0,none⟩) n c) n xs:=by
 refine ⟨h.1,?_⟩
 rcases h.2 with h0 | ⟨g',cap,cur,hv,hbg,hg,h1⟩
 ·exact .inl h0
 ·injection hv with hv1 hv2 hv3
  injection hv1 with hv1
  injection hv1 with hv1
  subst hv1;subst hv3
  exact .inr ⟨g,c,cur,rfl,hbg,hk _ hg,h1⟩
theorem ztV {V:World} {g n c N:Nat} {A':Option Addr} {l:List Nat} (h:By V (some ⟨g,0,none⟩) n c l) (hA:0<N→A'=some ⟨g,17,none⟩∧17+N≤n) (hN:(ql l).length=N) (hm:N≤9223372036854775807):By V A' N N (ql l):=by
 by_cases h0:N=0
 ·subst h0
  rw [List.eq_nil_of_length_eq_zero hN]
  exact ⟨rfl,Nat.le_refl _,by omega,Rd.nil_,fun _=>rfl⟩
 ·obtain ⟨rfl,hle⟩:=hA (by omega)
  have hs:=h.sub 17 N N hle (Nat.le_refl _) hm
  rw [Nat.zero_add] at hs
  by_cases ho:okB l=true
  ·obtain ⟨_,hn⟩:=zbY ho
   rw [zce ho,zbk hn] at hN
   rw [zce ho]
   unfold zaH
   rw [hN]
   exact hs
  ·rw [zqn (by simpa using ho)] at hN
   exact absurd hN.symm h0
theorem zmB (A:Option Addr) (n cp:Nat) (l:List Nat) (w:World) (hb:By w A n cp l) (h:szB l=false∨zaO l=true) :
 Calls Tryz.prog 179 #[.slice A n cp] w fun r w'=>r=.returned (.tuple #[.int .u8 (stN l),.agg Zk.c,.slice none 0 0])∧Ext w w':=by
 have hz:=heap_alloc_new w (.cells Zk.c 44)
 have hE:=(Ext.refl w).alloc (.cells Zk.c 44)
 have HN:Hid (l.length=n):=qj (Bs.len hb)
 have hmost:n≤9223372036854775807:=Nat.le_trans (Bs.cap hb) (Bs.most hb)
 have HB:=qj hb
 have HE:=qj hE
 have HZ:=qj hz
 clear hb hE hz
 by_cases hs:szB l=false
 ·have HS:=qj (zhV hs)
  have hr:=znl hs
  rw [HN.out] at hr
  obtain ⟨⟨c0,c1,c2,c3,c4⟩,f0,f1,f2,f3,f4⟩:=zac HZ.out
  clear hs h
  go_enter Tryz.func179,Tryz.ntmps179
  go_wp2_with fail
  refine (zfS A n cp _ hmost).mono ?_
  rintro r w1 ⟨rfl,rfl⟩
  go_wp2_with fail
  refine (zcN _ _).mono ?_
  rw [hr]
  rintro r w1 ⟨rfl,rfl⟩
  clear hr
  go_wp2_with fail
  refine bodyPost_ret (v:=.tuple #[.int .u8 2,.agg Zk.c,.slice none 0 0]) ?_ rfl ?_
  ·simp [results,Tryz.results179,go_sem,c0,c1,c2,c3,c4]
  ·exact ⟨by rw [HS.out];rfl,by first | exact zal HE.out (Nat.le_refl _) _ _ _ _ _ | exact HE.out⟩
 ·have hs':szB l=true:=by simpa using hs
  have hz':zaO l=true:=by rcases h with h | h;exact absurd h hs;exact h
  have HS:=qj (zji hs' hz')
  have hr:=zdV hs'
  have hw:=zrY hs'
  rw [HN.out] at hw hr
  have hg:(((roomN ((wsN n:Nat):Int):Nat):Int) == 0)=false:=by rw [hw];simpa using hr
  have HZB:=qj hz'
  clear hs h hs' hz' hw hr
  go_enter Tryz.func179,Tryz.ntmps179
  go_wp2_with fail
  refine (zfS A n cp _ hmost).mono ?_
  rintro r w1 ⟨rfl,rfl⟩
  go_wp2_with fail
  refine (zcN _ _).mono ?_
  rintro r w1 ⟨rfl,rfl⟩
  generalize roomN ((wsN n:Nat):Int)=R at *
  go_wp2_with fail
  refine (zhl A n cp l _ (HB.out.ext HE.out)).mono ?_
  rw [HZB.out]
  rintro r w1 ⟨rfl,hx⟩
  have hz1:=(hx.block _ (Array.getElem?_eq_some_iff.1 HZ.out).1).trans HZ.out
  have HE:=qj (HE.out.trans hx)
  obtain ⟨⟨c0,c1,c2,c3,c4⟩,f0,f1,f2,f3,f4⟩:=zac hz1
  clear hx hz1
  go_wp2_with fail
  refine bodyPost_ret (v:=.tuple #[.int .u8 0,.agg Zk.c,.slice none 0 0]) ?_ rfl ?_
  ·simp [results,Tryz.results179,go_sem,c0,c1,c2,c3,c4]
  ·exact ⟨by rw [HS.out];rfl,by first | exact zal HE.out (Nat.le_refl _) _ _ _ _ _ | exact HE.out⟩
theorem zpr (A:Option Addr) (n cp:Nat) (l:List Nat) (w:World) (hL:LaidF w) (hb:By w A n cp l) (hs:szB l=true) (hzb:zaO l=false) :
 Calls Tryz.prog 179 #[.slice A n cp] w fun r w'=>∃A' N,r=.returned (.tuple #[.int .u8 (stN l),.agg #[.int .i64 (ofl l 0),.int .i64 (ofl l 1),.int .i64 (ofl l 2),.int .i64 (ofl l 3),.int .i64 (ofl l 4)],.slice A' N N])∧By w' A' N N (obl l)∧zjl w.heap.size w' A' N n l∧Ext w w':=by
 have hz:=heap_alloc_new w (.cells Zk.c 44)
 have hE:=(Ext.refl w).alloc (.cells Zk.c 44)
 have HN:Hid (l.length=n):=qj (Bs.len hb)
 have hmost:n≤9223372036854775807:=Nat.le_trans (Bs.cap hb) (Bs.most hb)
 have hsz:=zcY.1 hs
 rw [HN.out] at hsz
 have hr:=zdV hs
 have hw:=zrY hs
 rw [HN.out] at hw hr
 obtain ⟨S,hS⟩:∃S,n/64=S:=⟨_,rfl⟩
 rw [hS] at hw hr
 have HS:Hid (l.length/64=S):=qj (by rw [HN.out];exact hS)
 have hg:(((roomN ((S:Nat):Int):Nat):Int) == 0)=false:=by simpa using hr
 have HB:=qj hb
 have HL:=qj hL
 have HE:=qj hE
 have HZ:=qj hz
 have HZB:=qj hzb
 have HSZ:=qj hs
 have hn64:64≤n:=by omega
 have hn128:n≤128:=by omega
 clear hb hL hE hz hzb hs hS hr hsz
 go_enter Tryz.func179,Tryz.ntmps179
 go_wp2_with fail
 refine (zfS A n cp _ hmost).mono ?_
 rw [hw]
 rintro r w1 ⟨rfl,rfl⟩
 clear hw
 go_wp2_with fail
 refine (zcN _ _).mono ?_
 rintro r w1 ⟨rfl,rfl⟩
 generalize roomN ((S:Nat):Int)=R at *
 go_wp2_with fail
 refine (zhl A n cp l _ (HB.out.ext HE.out)).mono ?_
 rw [HZB.out]
 rintro r w1 ⟨rfl,hx⟩
 have hz1:=(hx.block _ (Array.getElem?_eq_some_iff.1 HZ.out).1).trans HZ.out
 have HE:=qj (HE.out.trans hx)
 have HZ:=qj hz1
 clear hx hz1
 go_wp2_with fail
 refine (zrR A l n cp _ (HB.out.ext HE.out) (by omega)).mono ?_
 rintro r w2 ⟨A2,c2,rfl,hb2,hx,hown⟩
 obtain ⟨g,cap,hv⟩:=Go.Joins.ownsRow_form hown (by omega)
 injection hv with hv _ hcap
 subst hv;subst hcap
 have hz1:=(hx.block _ (Array.getElem?_eq_some_iff.1 HZ.out).1).trans HZ.out
 have hne:w.heap.size≠g:=by have h1:=(hown.lt g rfl).1;have h2:=(Array.getElem?_eq_some_iff.1 HZ.out).1;omega
 have HO:=qj (znL hown (Ext.size HE.out))
 have HE:=qj (HE.out.trans hx)
 have HZ:=qj hz1
 have HB2:=qj hb2
 clear hx hz1 hown hb2
 go_wp2_with fail
 refine (znQ g n c2 l _ (HL.out.ext HE.out).a HB2.out hn64 hn128).mono ?_
 rintro r w3 ⟨A3,N,rfl,hb3,hpc,hx⟩
 have hz1:=(hx.block _ (Array.getElem?_eq_some_iff.1 HZ.out).1).trans HZ.out
 have HE:=qj (HE.out.trans hx)
 have HZ:=qj hz1
 have HB3:=qj hb3
 have HP:=qj hpc
 have HO:=qj (zck HO.out hx)
 obtain ⟨⟨c0,c1,c2',c3,c4⟩,f0,f1,f2,f3,f4⟩:=zac hz1
 clear hx hz1 hb3 hpc HB2
 go_wp2_with fail
 have hrow:=zaD HZ.out (.int .i64 (qf l 0)) (.int .i64 (qf l 1)) (.int .i64 (qf l 2)) (.int .i64 (qf l 3)) (.int .i64 (qf l 4))
 have hx:=zal HE.out (Nat.le_refl _) (.int .i64 (qf l 0)) (.int .i64 (qf l 1)) (.int .i64 (qf l 2)) (.int .i64 (qf l 3)) (.int .i64 (qf l 4))
 have hown:=zje HO.out (V:=((SW.mk w3 w.heap.size [.int .i64 (qf l 0),.int .i64 (qf l 1),.int .i64 (qf l 2),.int .i64 (qf l 3),.int .i64 (qf l 4)]:World))) (fun o ho=>zgR hne HZ.out ho _ _ _ _ _)
 clear c0 c1 c2' c3 c4 f0 f1 f2 f3 f4
 have hqN:(ql l).length=N:=HB3.out.len
 have hqm:N≤9223372036854775807:=HB3.out.most
 generalize ((SW.mk w3 w.heap.size [.int .i64 (qf l 0),.int .i64 (qf l 1),.int .i64 (qf l 2),.int .i64 (qf l 3),.int .i64 (qf l 4)]:World))=V at *
 have HO:=qj hown
 have HBq:=qj (ztV (Bs.of_own hown HB.out.rd.lt) HP.out hqN hqm)
 have HE:=qj hx
 have HZ:=qj hrow
 have HRE:Hid (sealE (qf l 0) (qf l 1) (qf l 2) (qf l 3) (qf l 4) N ((S:Nat):Int)=reE l):=qj (by unfold reE;rw [HS.out,hqN])
 have HRL:Hid (sealL (qf l 0) (qf l 1) (qf l 2) (qf l 3) (qf l 4) (ql l) ((S:Nat):Int)=reL l):=qj (by unfold reL;rw [HS.out])
 clear hown hx hrow HB3 hqN hqm
 refine (zqZ _ _ _ _ _ _ _ _ _ (ql l) _ (HL.out.ext HE.out) HBq.out).mono ?_
 rw [HRE.out,HRL.out]
 rintro r w4 ⟨A4,c4,rfl,hb4,hx⟩
 have hz1:=(hx.block _ (Array.getElem?_eq_some_iff.1 HZ.out).1).trans HZ.out
 have HO:=qj (zck HO.out hx)
 have HBq:=qj (HBq.out.ext hx)
 have HE:=qj (HE.out.trans hx)
 have HZ:=qj hz1
 have HB4:=qj hb4
 obtain ⟨⟨d0,d1,d2,d3,d4⟩,f0,f1,f2,f3,f4⟩:=zac hz1
 clear hx hz1 hb4
 by_cases hre:reE l=0
 ·have hgood:=zlJ HSZ.out HB.out.rd.lt hre
  rw [hre]
  generalize reL l=RL at *
  go_wp2_with fail
  refine (zqO _ _ RL l _ n _ cp _ HB4.out (HB.out.ext HE.out)).mono ?_
  by_cases hg2:RL=l
  ·rw [decide_eq_true hg2] at hgood ⊢
   have HG:=qj hgood
   have HF:Hid (∀k,qf l k=ofl l k):=qj fun k=>by rw [zap (zhX hgood),zjZ hgood]
   have HQ:Hid (ql l=obl l):=qj (by rw [zce (zhX hgood),zjG hgood])
   have HST:=qj (zdv hgood)
   clear hgood hg2
   rintro r w5 ⟨rfl,rfl⟩
   go_wp2_with fail
   generalize hh0:w.heap.size=h0 at *
   have HN0:=qj hh0
   clear hh0
   go_region_held3 (fun w'=>(CW.mk w' h0 [.int .i64 (qf l 0),.int .i64 (qf l 1),.int .i64 (qf l 2),.int .i64 (qf l 3),.int .i64 (qf l 4)]:Prop))
    (first | with_reducible exact ⟨d0,d1,d2,d3,d4⟩ | with_reducible exact zcQ HZ.out _ _ _ _ _ | go_keep)
    (first | (go_at_call 0;fail))
   have hrow:=zaD HZ.out (.int .i64 (qf l 0)) (.int .i64 (qf l 1)) (.int .i64 (qf l 2)) (.int .i64 (qf l 3)) (.int .i64 (qf l 4))
   have hx:=zal HE.out (g:=h0) (Nat.le_of_eq HN0.out) (.int .i64 (qf l 0)) (.int .i64 (qf l 1)) (.int .i64 (qf l 2)) (.int .i64 (qf l 3)) (.int .i64 (qf l 4))
   have hown:=zje HO.out (V:=((SW.mk w4 h0 [.int .i64 (qf l 0),.int .i64 (qf l 1),.int .i64 (qf l 2),.int .i64 (qf l 3),.int .i64 (qf l 4)]:World))) (fun o ho=>zgR hne HZ.out ho _ _ _ _ _)
   have hqN:(ql l).length=N:=HBq.out.len
   have hqm:N≤9223372036854775807:=HBq.out.most
   clear d0 d1 d2 d3 d4 f0 f1 f2 f3 f4
   generalize ((SW.mk w4 h0 [.int .i64 (qf l 0),.int .i64 (qf l 1),.int .i64 (qf l 2),.int .i64 (qf l 3),.int .i64 (qf l 4)]:World))=V at hrow hx hown ⊢
   have HO:=qj (zck hown ((Ext.refl V).drew))
   have HBq:=qj (ztV (Bs.of_own HO.out HB.out.rd.lt) HP.out hqN hqm)
   obtain ⟨⟨e0,e1,e2,e3,e4⟩,_⟩:=zac hrow
   have HX:=qj hx.drew
   clear hrow hx hown hqN hqm
   go_wp2_with fail
   refine bodyPost_ret (v:=.tuple #[.int .u8 1,.agg #[.int .i64 (qf l 0),.int .i64 (qf l 1),.int .i64 (qf l 2),.int .i64 (qf l 3),.int .i64 (qf l 4)],.slice A3 N N]) ?_ rfl ?_
   ·simp [results,Tryz.results179,go_sem,e0,e1,e2,e3,e4]
   ·exact ⟨A3,N,by rw [HF.out,HF.out,HF.out,HF.out,HF.out,HST.out];rfl,by rw [←HQ.out];exact HBq.out,fun hN=>⟨g,c2,(HP.out hN).1,(HP.out hN).2,by rw [HN0.out];exact HO.out⟩,HX.out⟩
  ·rw [decide_eq_false hg2] at hgood ⊢
   have HF:Hid (∀k,ofl l k=0):=qj (zaY hgood)
   have HQ:Hid (obl l=[]):=qj (zcs hgood)
   have HST:=qj (zcW HZB.out hgood)
   clear hg2
   clear hgood
   rintro r w5 ⟨rfl,rfl⟩
   go_wp2_with fail
   refine bodyPost_ret (v:=.tuple #[.int .u8 2,.agg Zk.c,.slice none 0 0]) ?_ rfl ?_
   ·simp [results,Tryz.results179,go_sem,d0,d1,d2,d3,d4]
   ·exact ⟨none,0,by rw [HF.out,HF.out,HF.out,HF.out,HF.out,HST.out];rfl,by rw [HQ.out];exact By.nil_ _,fun hN=>absurd hN (by omega),zal HE.out (Nat.le_refl _) _ _ _ _ _⟩
 ·have hgood:=zuR HSZ.out hre
  have hne0:(reE l != 0)=true:=by simpa using hre
  have HF:Hid (∀k,ofl l k=0):=qj (zaY hgood)
  have HQ:Hid (obl l=[]):=qj (zcs hgood)
  have HST:=qj (zcW HZB.out hgood)
  clear hgood
  clear hre
  generalize reE l=E at *
  go_wp2_with fail
  refine bodyPost_ret (v:=.tuple #[.int .u8 2,.agg Zk.c,.slice none 0 0]) ?_ rfl ?_
  ·simp [results,Tryz.results179,go_sem,d0,d1,d2,d3,d4]
  ·exact ⟨none,0,by rw [HF.out,HF.out,HF.out,HF.out,HF.out,HST.out];rfl,by rw [HQ.out];exact By.nil_ _,fun hN=>absurd hN (by omega),zal HE.out (Nat.le_refl _) _ _ _ _ _⟩
theorem zqa (A:Option Addr) (n cp:Nat) (l:List Nat) (w:World) (hL:LaidF w) (hb:By w A n cp l) :
 Calls Tryz.prog 179 #[.slice A n cp] w fun r w'=>∃A' N,r=.returned (.tuple #[.int .u8 (stN l),.agg #[.int .i64 (ofl l 0),.int .i64 (ofl l 1),.int .i64 (ofl l 2),.int .i64 (ofl l 3),.int .i64 (ofl l 4)],.slice A' N N])∧By w' A' N N (obl l)∧zjl w.heap.size w' A' N n l∧Ext w w':=by
 by_cases h:szB l=false∨zaO l=true
 ·have hg:zat l=false:=by rcases h with h | h;exact zfo h;exact zko h
  refine (zmB A n cp l w hb h).mono ?_
  rintro r w' ⟨rfl,hx⟩
  exact ⟨none,0,by rw [zaY hg,zaY hg,zaY hg,zaY hg,zaY hg];rfl,by rw [zcs hg];exact By.nil_ _,fun hN=>absurd hN (by omega),hx⟩
 ·exact zpr A n cp l w hL hb (by
   by_cases hs:szB l=true
   ·exact hs
   ·exact absurd (.inl (by simpa using hs)) h) (by
   by_cases hz:zaO l=true
   ·exact absurd (.inr hz) h
   ·simpa using hz)
def zdn (l:List Nat) (x y z:Int):Bool:=zat l && (decide ((ofl l 0:Int)=x) && (decide ((ofl l 1:Int)=y) && decide ((ofl l 2:Int)=z)))
def stM (l:List Nat) (x y z:Int):Nat:=if zat l=true then (if zdn l x y z=true then 1 else 2) else stN l
def mfl (l:List Nat) (x y z:Int) (k:Nat):Nat:=if zdn l x y z=true then ofl l k else 0
def mbl (l:List Nat) (x y z:Int):List Nat:=if zdn l x y z=true then obl l else []
theorem ziz {l:List Nat} {x y z:Int} (h:zat l=false):zdn l x y z=false:=by unfold zdn;rw [h];rfl
theorem zeh {l:List Nat} {x y z:Int} (h:zat l=false):stM l x y z=stN l∧(∀k,mfl l x y z k=ofl l k)∧mbl l x y z=obl l:=by
 refine ⟨by unfold stM;rw [if_neg (by rw [h];simp)],fun k=>?_,?_⟩
 ·unfold mfl;rw [if_neg (by rw [ziz h];simp),zaY h]
 ·unfold mbl;rw [if_neg (by rw [ziz h];simp),zcs h]
theorem zla {l:List Nat} {x y z:Int} (h:zat l=true) (hm:zdn l x y z=true):stM l x y z=1∧(∀k,mfl l x y z k=ofl l k)∧mbl l x y z=obl l:=by
 refine ⟨by unfold stM;rw [if_pos h,if_pos hm],fun k=>?_,?_⟩
 ·unfold mfl;rw [if_pos hm]
 ·unfold mbl;rw [if_pos hm]
theorem znz {l:List Nat} {x y z:Int} (h:zat l=true) (hm:zdn l x y z=false):stM l x y z=2∧(∀k,mfl l x y z k=0)∧mbl l x y z=[]:=by
 refine ⟨by unfold stM;rw [if_pos h,if_neg (by rw [hm];simp)],fun k=>?_,?_⟩
 ·unfold mfl;rw [if_neg (by rw [hm];simp)]
 ·unfold mbl;rw [if_neg (by rw [hm];simp)]
theorem zes {l:List Nat} {x y z:Int} (h:zat l=true):zdn l x y z=true↔(ofl l 0:Int)=x∧(ofl l 1:Int)=y∧(ofl l 2:Int)=z:=by
 unfold zdn
 rw [h]
 simp
theorem By.far {W V:World} {A:Option Addr} {n c h0:Nat} {l:List Nat} (h:By W A n c l) (hne:∀g o,A=some ⟨g,o,none⟩→0<n→h0≠g) (hk:∀g k,h0≠g→V.cell? (aD g k)=W.cell? (aD g k)) (hs:W.heap.size≤V.heap.size):By V A n c l:=by
 refine ⟨h.len,h.cap,h.most,⟨h.rd.lt,fun hn=>?_⟩,Bs.nil_ h⟩
 obtain ⟨g,o,e,hg,hc⟩:=h.rd.2 hn
 have hne':=hne g o e (by have:=h.len;omega)
 exact ⟨g,o,e,by omega,fun j x hx=>(hk g (o+j) hne').trans (hc j x hx)⟩
theorem zoA (w:World) (g:Nat) (x0 x1 x2 x3 x4:Value):w.heap.size≤((SW.mk w g [x0,x1,x2,x3,x4]:World)).heap.size:=by
 simp [World.setCell]
theorem By.five {W:World} {A:Option Addr} {n c h0:Nat} {l:List Nat} (h:By W A n c l) (hne:∀g o,A=some ⟨g,o,none⟩→0<n→h0≠g) (x0 x1 x2 x3 x4:Value) :
 By ((SW.mk W h0 [x0,x1,x2,x3,x4]:World)) A n c l :=
 h.far hne (fun _ _ hg=>zkA hg _ _ _ _ _) (zoA _ _ _ _ _ _ _)
theorem zjl.ge {B:Nat} {w':World} {A':Option Addr} {N n:Nat} {l:List Nat} (h:zjl B w' A' N n l):∀g o,A'=some ⟨g,o,none⟩→0<N→B≤g:=by
 intro g o e hN
 obtain ⟨g',c',e',_,ho⟩:=h hN
 rw [e] at e'
 injection e' with e'
 injection e' with e1 _
 subst e1
 exact (ho.lt g rfl).1
theorem zjl.ne {B:Nat} {w':World} {A':Option Addr} {N n h0:Nat} {l:List Nat} (h:zjl B w' A' N n l) (hb:h0<B):∀g o,A'=some ⟨g,o,none⟩→0<N→h0≠g:=by
 intro g o e hN
 obtain ⟨g',c',e',_,ho⟩:=h hN
 rw [e] at e'
 injection e' with e'
 injection e' with e1 _
 subst e1
 have:=(ho.lt g rfl).1
 omega
theorem zqi (A:Option Addr) (n cp:Nat) (l:List Nat) (x y z:Int) (w:World) (hL:LaidF w) (hb:By w A n cp l) :
 Calls Tryz.prog 153 #[.slice A n cp,x,y,z] w fun r w'=>∃A' N,r=.returned (.tuple #[.int .u8 (stM l x y z),.agg #[.int .i64 (mfl l x y z 0),.int .i64 (mfl l x y z 1),.int .i64 (mfl l x y z 2),.int .i64 (mfl l x y z 3),.int .i64 (mfl l x y z 4)],.slice A' N N])∧By w' A' N N (mbl l x y z)∧(∀g o,A'=some ⟨g,o,none⟩→0<N→w.heap.size≤g)∧Ext w w':=by
 have hz:=heap_alloc_new w (.cells Zk.c 44)
 have hE:=(Ext.refl w).alloc (.cells Zk.c 44)
 have HB:=qj hb
 have HL:=qj hL
 have HE:=qj hE
 have HZ:=qj hz
 clear hb hL hE hz
 go_enter Tryz.func153,Tryz.ntmps153
 go_wp2_with fail
 refine (zqa A n cp l _ (HL.out.ext HE.out) (HB.out.ext HE.out)).mono ?_
 rintro r w1 ⟨A1,N,rfl,hb1,hpc,hx⟩
 have hz1:=(hx.block _ (Array.getElem?_eq_some_iff.1 HZ.out).1).trans HZ.out
 have HE:=qj (HE.out.trans hx)
 have HZ:=qj hz1
 have HB1:=qj hb1
 obtain ⟨⟨c0,c1,c2,c3,c4⟩,f0,f1,f2,f3,f4⟩:=zac hz1
 have HNE:=qj (hpc.ne (h0:=w.heap.size) (by simp))
 have HGE:Hid (∀g o,A1=some ⟨g,o,none⟩→0<N→w.heap.size≤g):=qj fun g o hA hN=>Nat.le_trans (by simp) (hpc.ge g o hA hN)
 clear hx hz1 hb1 hpc
 by_cases hg:zat l=true
 ·have HST:Hid (stN l=1):=qj (zdv hg)
  rw [HST.out]
  by_cases hm:zdn l x y z=true
  ·obtain ⟨e1,e2,e3⟩:=zla hg hm
   have HR:Hid (stM l x y z=1∧(∀k,mfl l x y z k=ofl l k)∧mbl l x y z=obl l):=qj ⟨e1,e2,e3⟩
   obtain ⟨rfl,rfl,rfl⟩:=(zes hg).1 hm
   clear e1 e2 e3 hg hm
   go_wp2_with fail
   have hrow:=zaD HZ.out (.int .i64 (ofl l 0)) (.int .i64 (ofl l 1)) (.int .i64 (ofl l 2)) (.int .i64 (ofl l 3)) (.int .i64 (ofl l 4))
   have hx:=zal HE.out (Nat.le_refl _) (.int .i64 (ofl l 0)) (.int .i64 (ofl l 1)) (.int .i64 (ofl l 2)) (.int .i64 (ofl l 3)) (.int .i64 (ofl l 4))
   have hby:=HB1.out.five HNE.out (.int .i64 (ofl l 0)) (.int .i64 (ofl l 1)) (.int .i64 (ofl l 2)) (.int .i64 (ofl l 3)) (.int .i64 (ofl l 4))
   clear c0 c1 c2 c3 c4 f0 f1 f2 f3 f4
   generalize ((SW.mk w1 w.heap.size [.int .i64 (ofl l 0),.int .i64 (ofl l 1),.int .i64 (ofl l 2),.int .i64 (ofl l 3),.int .i64 (ofl l 4)]:World))=W at *
   generalize hh0:w.heap.size=h0 at *
   obtain ⟨⟨d0,d1,d2,d3,d4⟩,f0,f1,f2,f3,f4⟩:=zac hrow
   have HZ:=qj hrow
   have HE:=qj hx
   have HB1:=qj hby
   have HN0:=qj hh0
   clear hh0 hrow hx hby
   go_region_held3 (fun w'=>(CW.mk w' h0 [.int .i64 (ofl l 0),.int .i64 (ofl l 1),.int .i64 (ofl l 2),.int .i64 (ofl l 3),.int .i64 (ofl l 4)]:Prop))
    (first | with_reducible exact ⟨d0,d1,d2,d3,d4⟩ | with_reducible exact zcQ HZ.out _ _ _ _ _ | go_keep)
    (first | (go_at_call 0;fail))
   have hrow:=zaD HZ.out (.int .i64 (ofl l 0)) (.int .i64 (ofl l 1)) (.int .i64 (ofl l 2)) (.int .i64 (ofl l 3)) (.int .i64 (ofl l 4))
   have hx:=zal HE.out (g:=h0) (Nat.le_of_eq HN0.out) (.int .i64 (ofl l 0)) (.int .i64 (ofl l 1)) (.int .i64 (ofl l 2)) (.int .i64 (ofl l 3)) (.int .i64 (ofl l 4))
   have hby:=HB1.out.five HNE.out (.int .i64 (ofl l 0)) (.int .i64 (ofl l 1)) (.int .i64 (ofl l 2)) (.int .i64 (ofl l 3)) (.int .i64 (ofl l 4))
   clear d0 d1 d2 d3 d4 f0 f1 f2 f3 f4
   generalize ((SW.mk W h0 [.int .i64 (ofl l 0),.int .i64 (ofl l 1),.int .i64 (ofl l 2),.int .i64 (ofl l 3),.int .i64 (ofl l 4)]:World))=V at hrow hx hby ⊢
   obtain ⟨⟨e0,e1,e2,e3,e4⟩,_⟩:=zac hrow
   have HB1:=qj (hby.ext ((Ext.refl V).drew))
   have HX:=qj hx.drew
   clear hrow hx hby
   go_wp2_with fail
   refine bodyPost_ret (v:=.tuple #[.int .u8 1,.agg #[.int .i64 (ofl l 0),.int .i64 (ofl l 1),.int .i64 (ofl l 2),.int .i64 (ofl l 3),.int .i64 (ofl l 4)],.slice A1 N N]) ?_ rfl ?_
   ·simp [results,Tryz.results153,go_sem,e0,e1,e2,e3,e4]
   ·exact ⟨A1,N,by rw [HR.out.1,HR.out.2.1,HR.out.2.1,HR.out.2.1,HR.out.2.1,HR.out.2.1];rfl,by rw [HR.out.2.2];exact HB1.out,by rw [HN0.out];exact HGE.out,HX.out⟩
  ·have hm':zdn l x y z=false:=by simpa using hm
   obtain ⟨e1,e2,e3⟩:=znz hg hm'
   have HR:Hid (stM l x y z=2∧(∀k,mfl l x y z k=0)∧mbl l x y z=[]):=qj ⟨e1,e2,e3⟩
   rw [zes hg] at hm
   clear e1 e2 e3 hm'
   by_cases h0:(ofl l 0:Int)=x
   ·by_cases h1:(ofl l 1:Int)=y
    ·have h2:¬(ofl l 2:Int)=z:=fun h=>hm ⟨h0,h1,h⟩
     subst h0;subst h1
     have g2:((ofl l 2:Int) != z)=true:=by simpa using h2
     clear hm hg h2
     have hz2:=zaD HZ.out (.int .i64 (ofl l 0)) (.int .i64 (ofl l 1)) (.int .i64 (ofl l 2)) (.int .i64 (ofl l 3)) (.int .i64 (ofl l 4))
     have hz3:=zaD hz2 (.int .i64 0) (.int .i64 0) (.int .i64 0) (.int .i64 0) (.int .i64 0)
     have hx:=zal HE.out (Nat.le_refl _) (.int .i64 (ofl l 0)) (.int .i64 (ofl l 1)) (.int .i64 (ofl l 2)) (.int .i64 (ofl l 3)) (.int .i64 (ofl l 4))
     have hx3:=zal hx (Nat.le_refl _) (.int .i64 0) (.int .i64 0) (.int .i64 0) (.int .i64 0) (.int .i64 0)
     have HZ3:=qj hz3
     have HX3:=qj hx3
     clear hz2 hz3 hx hx3
     go_wp2_with fail
     have hz3:=HZ3.out
     have hx3:=HX3.out
     generalize (((((((SW.mk w1 w.heap.size [.int .i64 (ofl l 0),.int .i64 (ofl l 1),.int .i64 (ofl l 2),.int .i64 (ofl l 3),.int .i64 (ofl l 4)]:World)).setCell (aD w.heap.size 0) (.int .i64 0)).setCell (aD w.heap.size 1) (.int .i64 0)).setCell (aD w.heap.size 2) (.int .i64 0)).setCell (aD w.heap.size 3) (.int .i64 0)).setCell (aD w.heap.size 4) (.int .i64 0))=V at hz3 hx3 ⊢
     obtain ⟨⟨e0,e1,e2,e3,e4⟩,_⟩:=zac hz3
     refine bodyPost_ret (v:=.tuple #[.int .u8 2,.agg Zk.c,.slice none 0 0]) ?_ rfl ?_
     ·simp [results,Tryz.results153,go_sem,e0,e1,e2,e3,e4]
     ·exact ⟨none,0,by rw [HR.out.1,HR.out.2.1,HR.out.2.1,HR.out.2.1,HR.out.2.1,HR.out.2.1];rfl,by rw [HR.out.2.2];exact By.nil_ _,fun g o hA hN=>absurd hN (by omega),hx3⟩
    ·subst h0
     have g1:((ofl l 1:Int) != y)=true:=by simpa using h1
     clear hm hg h1
     have hz2:=zaD HZ.out (.int .i64 (ofl l 0)) (.int .i64 (ofl l 1)) (.int .i64 (ofl l 2)) (.int .i64 (ofl l 3)) (.int .i64 (ofl l 4))
     have hz3:=zaD hz2 (.int .i64 0) (.int .i64 0) (.int .i64 0) (.int .i64 0) (.int .i64 0)
     have hx:=zal HE.out (Nat.le_refl _) (.int .i64 (ofl l 0)) (.int .i64 (ofl l 1)) (.int .i64 (ofl l 2)) (.int .i64 (ofl l 3)) (.int .i64 (ofl l 4))
     have hx3:=zal hx (Nat.le_refl _) (.int .i64 0) (.int .i64 0) (.int .i64 0) (.int .i64 0) (.int .i64 0)
     have HZ3:=qj hz3
     have HX3:=qj hx3
     clear hz2 hz3 hx hx3
     go_wp2_with fail
     have hz3:=HZ3.out
     have hx3:=HX3.out
     generalize (((((((SW.mk w1 w.heap.size [.int .i64 (ofl l 0),.int .i64 (ofl l 1),.int .i64 (ofl l 2),.int .i64 (ofl l 3),.int .i64 (ofl l 4)]:World)).setCell (aD w.heap.size 0) (.int .i64 0)).setCell (aD w.heap.size 1) (.int .i64 0)).setCell (aD w.heap.size 2) (.int .i64 0)).setCell (aD w.heap.size 3) (.int .i64 0)).setCell (aD w.heap.size 4) (.int .i64 0))=V at hz3 hx3 ⊢
     obtain ⟨⟨e0,e1,e2,e3,e4⟩,_⟩:=zac hz3
     refine bodyPost_ret (v:=.tuple #[.int .u8 2,.agg Zk.c,.slice none 0 0]) ?_ rfl ?_
     ·simp [results,Tryz.results153,go_sem,e0,e1,e2,e3,e4]
     ·exact ⟨none,0,by rw [HR.out.1,HR.out.2.1,HR.out.2.1,HR.out.2.1,HR.out.2.1,HR.out.2.1];rfl,by rw [HR.out.2.2];exact By.nil_ _,fun g o hA hN=>absurd hN (by omega),hx3⟩
   ·have g0:((ofl l 0:Int) != x)=true:=by simpa using h0
    clear hm hg h0
    have hz2:=zaD HZ.out (.int .i64 (ofl l 0)) (.int .i64 (ofl l 1)) (.int .i64 (ofl l 2)) (.int .i64 (ofl l 3)) (.int .i64 (ofl l 4))
    have hz3:=zaD hz2 (.int .i64 0) (.int .i64 0) (.int .i64 0) (.int .i64 0) (.int .i64 0)
    have hx:=zal HE.out (Nat.le_refl _) (.int .i64 (ofl l 0)) (.int .i64 (ofl l 1)) (.int .i64 (ofl l 2)) (.int .i64 (ofl l 3)) (.int .i64 (ofl l 4))
    have hx3:=zal hx (Nat.le_refl _) (.int .i64 0) (.int .i64 0) (.int .i64 0) (.int .i64 0) (.int .i64 0)
    have HZ3:=qj hz3
    have HX3:=qj hx3
    clear hz2 hz3 hx hx3
    go_wp2_with fail
    have hz3:=HZ3.out
    have hx3:=HX3.out
    generalize (((((((SW.mk w1 w.heap.size [.int .i64 (ofl l 0),.int .i64 (ofl l 1),.int .i64 (ofl l 2),.int .i64 (ofl l 3),.int .i64 (ofl l 4)]:World)).setCell (aD w.heap.size 0) (.int .i64 0)).setCell (aD w.heap.size 1) (.int .i64 0)).setCell (aD w.heap.size 2) (.int .i64 0)).setCell (aD w.heap.size 3) (.int .i64 0)).setCell (aD w.heap.size 4) (.int .i64 0))=V at hz3 hx3 ⊢
    obtain ⟨⟨e0,e1,e2,e3,e4⟩,_⟩:=zac hz3
    refine bodyPost_ret (v:=.tuple #[.int .u8 2,.agg Zk.c,.slice none 0 0]) ?_ rfl ?_
    ·simp [results,Tryz.results153,go_sem,e0,e1,e2,e3,e4]
    ·exact ⟨none,0,by rw [HR.out.1,HR.out.2.1,HR.out.2.1,HR.out.2.1,HR.out.2.1,HR.out.2.1];rfl,by rw [HR.out.2.2];exact By.nil_ _,fun g o hA hN=>absurd hN (by omega),hx3⟩
 ·have hg':zat l=false:=by simpa using hg
  obtain ⟨e1,e2,e3⟩:=zeh (x:=x) (y:=y) (z:=z) hg'
  have HR:Hid (stM l x y z=stN l∧(∀k,mfl l x y z k=ofl l k)∧mbl l x y z=obl l):=qj ⟨e1,e2,e3⟩
  have hst:¬stN l=1:=fun h=>hg (znb.1 h)
  have g0:((stN l:Int) == 1)=false:=by simp;omega
  clear e1 e2 e3 hg hg' hst
  generalize stN l=st at *
  go_wp2_with fail
  have hrow:=zaD HZ.out (.int .i64 (ofl l 0)) (.int .i64 (ofl l 1)) (.int .i64 (ofl l 2)) (.int .i64 (ofl l 3)) (.int .i64 (ofl l 4))
  have hx:=zal HE.out (Nat.le_refl _) (.int .i64 (ofl l 0)) (.int .i64 (ofl l 1)) (.int .i64 (ofl l 2)) (.int .i64 (ofl l 3)) (.int .i64 (ofl l 4))
  have hby:=HB1.out.five HNE.out (.int .i64 (ofl l 0)) (.int .i64 (ofl l 1)) (.int .i64 (ofl l 2)) (.int .i64 (ofl l 3)) (.int .i64 (ofl l 4))
  clear c0 c1 c2 c3 c4 f0 f1 f2 f3 f4
  generalize ((SW.mk w1 w.heap.size [.int .i64 (ofl l 0),.int .i64 (ofl l 1),.int .i64 (ofl l 2),.int .i64 (ofl l 3),.int .i64 (ofl l 4)]:World))=W at *
  generalize hh0:w.heap.size=h0 at *
  obtain ⟨⟨d0,d1,d2,d3,d4⟩,f0,f1,f2,f3,f4⟩:=zac hrow
  have HZ:=qj hrow
  have HE:=qj hx
  have HB1:=qj hby
  have HN0:=qj hh0
  clear hh0 hrow hx hby
  go_region_held3 (fun w'=>(CW.mk w' h0 [.int .i64 (ofl l 0),.int .i64 (ofl l 1),.int .i64 (ofl l 2),.int .i64 (ofl l 3),.int .i64 (ofl l 4)]:Prop))
   (first | with_reducible exact ⟨d0,d1,d2,d3,d4⟩ | with_reducible exact zcQ HZ.out _ _ _ _ _ | go_keep)
   (first | (go_at_call 0;fail))
  have hrow:=zaD HZ.out (.int .i64 (ofl l 0)) (.int .i64 (ofl l 1)) (.int .i64 (ofl l 2)) (.int .i64 (ofl l 3)) (.int .i64 (ofl l 4))
  have hx:=zal HE.out (g:=h0) (Nat.le_of_eq HN0.out) (.int .i64 (ofl l 0)) (.int .i64 (ofl l 1)) (.int .i64 (ofl l 2)) (.int .i64 (ofl l 3)) (.int .i64 (ofl l 4))
  have hby:=HB1.out.five HNE.out (.int .i64 (ofl l 0)) (.int .i64 (ofl l 1)) (.int .i64 (ofl l 2)) (.int .i64 (ofl l 3)) (.int .i64 (ofl l 4))
  clear d0 d1 d2 d3 d4 f0 f1 f2 f3 f4
  generalize ((SW.mk W h0 [.int .i64 (ofl l 0),.int .i64 (ofl l 1),.int .i64 (ofl l 2),.int .i64 (ofl l 3),.int .i64 (ofl l 4)]:World))=V at hrow hx hby ⊢
  obtain ⟨⟨e0,e1,e2,e3,e4⟩,_⟩:=zac hrow
  have HB1:=qj (hby.ext ((Ext.refl V).drew))
  have HX:=qj hx.drew
  clear hrow hx hby
  go_wp2_with fail
  refine bodyPost_ret (v:=.tuple #[.int .u8 st,.agg #[.int .i64 (ofl l 0),.int .i64 (ofl l 1),.int .i64 (ofl l 2),.int .i64 (ofl l 3),.int .i64 (ofl l 4)],.slice A1 N N]) ?_ rfl ?_
  ·simp [results,Tryz.results153,go_sem,e0,e1,e2,e3,e4]
  ·exact ⟨A1,N,by rw [HR.out.1,HR.out.2.1,HR.out.2.1,HR.out.2.1,HR.out.2.1,HR.out.2.1],by rw [HR.out.2.2];exact HB1.out,by rw [HN0.out];exact HGE.out,HX.out⟩
theorem zuf (r b:Nat) (w:World) (hr:r<4294967296) (hb:b<2) :
 Calls Tryz.prog 171 #[.int .u32 r,.int .u32 b] w fun e w'=>e=.returned (.int .u32 ((stp (r ^^^ b):Nat):Int))∧w=w':=by
 by_cases h:r%2=b
 ·have HS:=qj (zvc hb h)
  have ht:(((r:Int)%2) != (b:Int))=false:=by simp;omega
  clear h
  go_enter Tryz.func171,Tryz.ntmps171
  go_wp2_with fail
  go_ret
  exact ⟨by rw [HS.out];rfl,rfl⟩
 ·have HS:=qj (zue hb h)
  have ht:(((r:Int)%2) != (b:Int))=true:=by simp;omega
  have hx:bits .xor .u32 ((r:Int)/2) 2197175160=((r/2 ^^^ 2197175160:Nat):Int):=u32_xor_nat (r/2) 2197175160 (by omega) (by omega)
  clear h
  go_enter Tryz.func171,Tryz.ntmps171
  go_wp2_with fail
  go_ret
  exact ⟨by rw [HS.out];rfl,rfl⟩
theorem zqF (A:Option Addr) (l:List Nat) (n c B s:Nat) (w:World) (hl:l.length=n) (hr:Rd w B A l) (hm:n≤maxLen) (hs:s<4294967296) :
 Calls Tryz.prog 146 #[.int .u32 s,.slice A n c] w fun e w'=>e=.returned (.int .u32 ((crcE s l:Nat):Int))∧w=w':=by
 unfold maxLen at hm
 have HL:=qj hl
 clear hl
 go_enter Tryz.func146,Tryz.ntmps146
 go_wp2_with fail
 go_loop [5,6] (fun vr vi=>∃k t:Nat,k≤n∧vi=.int .i64 k∧vr=.int .u32 t∧t<4294967296∧Hid (t=feed (inv s) (l.take k))) (fun _ vi=>n-(intOf vi).toNat)
 case atStart=>exact ⟨0,inv s,Nat.zero_le _,rfl,by unfold inv;go_num,zmD s,qj rfl⟩
 case round =>
  obtain ⟨k,t,hk,rfl,rfl,ht,HT⟩:=hrel
  by_cases hlt:k<n
  ·obtain ⟨g,o,x,hA,_,hx,hx2,hcx⟩:=hr.at_ (k:=k) (by rw [HL.out];exact hlt)
   subst hA
   have HX:Hid (inb t x=feed (inv s) (l.take (k+1))):=qj (by rw [ziL hx,←HT.out])
   have hin:=zqY ht hx2
   clear hx HT
   go_wp2_with fail
   go_loop [5,7,8] (fun vr vx vj=>∃j u y:Nat,j≤8∧vj=.int .i64 j∧vr=.int .u32 u∧vx=.int .u32 y∧u<4294967296∧y<256∧Hid (y=x/2 ^ j)∧Hid (stps (8-j) (u ^^^ y)=inb t x)) (fun _ _ vj=>8-(intOf vj).toNat)
   case atStart=>exact ⟨0,t,x,by omega,rfl,rfl,by go_num,ht,hx2,qj (by simp),qj rfl⟩
   case round =>
    obtain ⟨j,u,y,hj,rfl,rfl,rfl,hu,hy,HY,HU⟩:=hrel
    by_cases hj8:j<8
    ·have HU2:=qj (zrH hj8 HU.out)
     have HY2:Hid (y/2=x/2 ^ (j+1)):=qj (by rw [HY.out,Nat.div_div_eq_div_mul,Nat.pow_succ])
     have hy2:y%2<2:=Nat.mod_lt _ (by omega)
     have hu2:stp (u ^^^ (y%2))<4294967296:=zqh (zib hu (by omega))
     go_wp2_with fail
     refine (zuf u (y%2) _ hu hy2).mono ?_
     rintro e w' ⟨rfl,rfl⟩
     go_wp2_with fail
     go_round
     case rel=>exact ⟨j+1,_,y/2,by omega,by go_num,rfl,by go_num,hu2,by omega,HY2,HU2⟩
     case measure=>simp [intOf];omega
    ·have HF:Hid (u=inb t x):=by
      obtain rfl:j=8:=by omega
      have h1:=HU.out
      have h2:=HY.out
      obtain rfl:y=0:=by omega
      rw [Nat.sub_self,Nat.xor_zero] at h1
      exact qj h1
     go_wp2_with fail
     go_round
     case rel=>exact ⟨k+1,u,by omega,by go_num,rfl,hu,qj (HF.out.trans HX.out)⟩
     case measure=>simp [intOf];omega
  ·have HF:Hid (inv t=crcE s l):=by
    have:=HT.out
    rw [List.take_of_length_le (by have:=HL.out;omega)] at this
    exact qj (by rw [this];rfl)
   go_wp2_with fail
   go_ret
   exact ⟨by rw [←HF.out];unfold inv;go_num,rfl⟩
theorem zrM (A:Option Addr) (l:List Nat) (n c B:Nat) (w:World) (hl:l.length=n) (hr:Rd w B A l) (hm:n≤maxLen) :
 Calls Tryz.prog 96 #[.slice A n c] w fun e w'=>e=.returned (.int .u32 ((crcS l:Nat):Int))∧w=w':=by
 have HM:=qj hm
 go_enter Tryz.func96,Tryz.ntmps96
 go_wp2_with fail
 refine (zqF A l n c B 0 _ hl hr HM.out (by omega)).mono ?_
 rintro e w' ⟨rfl,rfl⟩
 go_wp2_with fail
 go_ret
 exact ⟨rfl,rfl⟩
theorem ztA (A:Option Addr) (l:List Nat) (n c:Nat) (w:World) (hb:By w A n c l) :
 (cQ 96 #[.slice A n c] w (.int .u32 ((crcS l:Nat):Int)):Prop) :=
 zrM A l n c _ w hb.len hb.rd (by have:=hb.cap;have:=hb.most;unfold maxLen;omega)
def ztN:Value→Nat
 | .slice _ n _=>n
 | _=>0
theorem zlO (l:List Nat) (k:Nat):l++List.replicate k 0++[0]=l++List.replicate (k+1) 0:=by
 rw [List.append_assoc,←List.replicate_succ']
theorem zoD (a b c d e s:Int) (A:Option Addr) (n cp:Nat) (w:World) (h:roomN s=0∨mayB a b c d e=false) :
 Calls Tryz.prog 45 #[.agg #[a,b,c,d,e],.slice A n cp,s] w fun r w'=>r=.returned (.tuple Zk.o)∧Ext w w':=by
 have hE:=(Ext.refl w).alloc (.cells #[a,b,c,d,e] 44)
 have hT:=heap_alloc_new w (.cells #[a,b,c,d,e] 44)
 have HE:=qj hE
 obtain ⟨⟨i0,i1,i2,i3,i4⟩,_⟩:=zac hT
 clear hE hT
 by_cases hm:mayB a b c d e=false
 ·clear h
  go_enter Tryz.func45,Tryz.ntmps45
  go_wp2_with fail
  refine (zdG _ _ _ _ _ _).mono ?_
  rw [zrg hm,zpA hm]
  rintro r w1 ⟨A1,c1,rfl,_,hx⟩
  have HE:=qj (HE.out.trans hx)
  clear hx i0 i1 i2 i3 i4
  go_wp2_with fail
  go_ret2
  exact ⟨rfl,HE.out⟩
 ·have h0:roomN s=0:=by rcases h with h | h;exact h;exact absurd h hm
  have hm':mayB a b c d e=true:=by simpa using hm
  clear h hm
  go_enter Tryz.func45,Tryz.ntmps45
  go_wp2_with fail
  refine (zdG _ _ _ _ _ _).mono ?_
  rw [zfL hm']
  rintro r w1 ⟨A1,c1,rfl,_,hx⟩
  have HE:=qj (HE.out.trans hx)
  clear hx i0 i1 i2 i3 i4 hm'
  go_wp2_with fail
  refine (zaW _ _).mono ?_
  rw [h0]
  rintro r w2 ⟨rfl,rfl⟩
  go_wp2_with fail
  go_ret2
  exact ⟨rfl,HE.out⟩
theorem zlS (a b c d e s:Int) (A:Option Addr) (n cp:Nat) (w:World) (h0:roomN s≠0) (hm:mayB a b c d e=true) (hn:roomN s<n) :
 Calls Tryz.prog 45 #[.agg #[a,b,c,d,e],.slice A n cp,.int .i64 s] w fun r w'=>r=.returned (.tuple #[.slice none 0 0,.int .i64 3])∧Ext w w':=by
 have hE:=(Ext.refl w).alloc (.cells #[a,b,c,d,e] 44)
 have hT:=heap_alloc_new w (.cells #[a,b,c,d,e] 44)
 have HE:=qj hE
 obtain ⟨⟨i0,i1,i2,i3,i4⟩,_⟩:=zac hT
 have g0:(((roomN s:Nat):Int) == 0)=false:=by simpa using h0
 have HR:Hid (∀w,(cQ 95 #[.int .i64 s] w (.int .i64 (roomN s)):Prop)):=qj (zaW s)
 clear hE hT h0
 go_enter Tryz.func45,Tryz.ntmps45
 go_wp2_with fail
 refine (zdG _ _ _ _ _ _).mono ?_
 rw [zfL hm]
 rintro r w1 ⟨A1,c1,rfl,_,hx⟩
 have HE:=qj (HE.out.trans hx)
 clear hx i0 i1 i2 i3 i4 hm
 generalize roomN s=R at *
 go_wp2_with fail
 refine (HR.out _).mono ?_
 rintro r w2 ⟨rfl,rfl⟩
 go_wp2_with fail
 refine (HR.out _).mono ?_
 rintro r w2 ⟨rfl,rfl⟩
 go_wp2_with fail
 go_ret2
 exact ⟨rfl,HE.out⟩
theorem zpg {w:World} {b b' n:Nat} {e:TypeId} {s:Nat} {v:Value} {xs:List Value} (h:w.ownsRow b e s v n xs) (hb:b'≤b):w.ownsRow b' e s v n xs:=by
 refine ⟨h.1,?_⟩
 rcases h.2 with h0 | ⟨g,cap,cur,hv,hbg,h1⟩
 ·exact .inl h0
 ·exact .inr ⟨g,cap,cur,hv,Nat.le_trans hb hbg,h1⟩
theorem zir (a b c d e:Int) (S:Nat) (A:Option Addr) (n cp:Nat) (body:List Nat) (w:World) (hb:By w A n cp body) (h0:roomN (S:Int)≠0) (hm:mayB a b c d e=true) (hn:n≤roomN (S:Int)) :
 Calls Tryz.prog 45 #[.agg #[a,b,c,d,e],.slice A n cp,.int .i64 S] w fun r w'=>∃A' c',r=.returned (.tuple #[.slice A' (64 * S) c',.int .i64 0])∧By w' A' (64 * S) c' (zbN body (pl a b c d e) S)∧Ext w w'∧w'.ownsRow w.heap.size 5 1 (.slice A' (64 * S) c') (64 * S) (vb (zbN body (pl a b c d e) S)):=by
 obtain ⟨i0,hi,hz0,hz1,hz2⟩:=info_parts zay
 have hE:=(Ext.refl w).alloc (.cells #[a,b,c,d,e] 44)
 have hT:=heap_alloc_new w (.cells #[a,b,c,d,e] 44)
 have HE:=qj hE
 have HB:=qj hb
 obtain ⟨⟨j0,j1,j2,j3,j4⟩,_⟩:=zac hT
 have g0:(((roomN (S:Int):Nat):Int) == 0)=false:=by simpa using h0
 have HR:Hid (∀w,(cQ 95 #[.int .i64 S] w (.int .i64 (roomN (S:Int))):Prop)):=qj (zaW S)
 have hfit:=zdq hn (by omega)
 have h15:(pl a b c d e).length=15:=by rw [zdd hm,zaS]
 have hN:body.length=n:=Bs.len hb
 obtain ⟨m,hm4⟩:∃m:Nat,m=64 * S-21-n:=⟨_,rfl⟩
 have HH:Hid (digs 2 n++pl a b c d e++body++List.replicate m 0=frameH body (pl a b c d e) S):=qj (by rw [←hN];exact zgw body _ S m (by rw [hN];exact hm4))
 have hm5:17+n+m≤64 * S-4:=by omega
 have hm6:64 * S-4≤17+n+m:=by omega
 have HM5:Hid (2+15+n+m=64 * S-4∧64 * S-4+4=64 * S):=qj (by omega)
 have hroomle:=zkj (S:Int)
 have HHlt:Hid (∀x∈frameH body (pl a b c d e) S,x<256):=qj (zon (Bs.rd hb).lt (by rw [zdd hm];exact zgu _ _ _ _ _))
 have hplt:∀x∈pl a b c d e,x<256:=by rw [zdd hm];exact zgu _ _ _ _ _
 have HPlt:=qj hplt
 clear hE hT h0 hb hN hm4 hplt
 go_enter Tryz.func45,Tryz.ntmps45
 go_wp2_with fail
 refine (zdG _ _ _ _ _ _).mono ?_
 rw [h15,zfL hm]
 rintro r w1 ⟨A1,c1,rfl,hb1,hx⟩
 have HB1:=qj hb1
 have HE:=qj (HE.out.trans hx)
 clear hx j0 j1 j2 j3 j4 hm hb1
 generalize roomN (S:Int)=R at *
 generalize hpl:pl a b c d e=own at *
 have HPL:=qj hpl
 clear hpl
 go_wp2_with fail
 refine (HR.out _).mono ?_
 rintro r w2 ⟨rfl,rfl⟩
 go_wp2_with fail
 refine (HR.out _).mono ?_
 rintro r w2 ⟨rfl,rfl⟩
 go_wp2_with fail
 refine (zcI 2 n _ (zbs.2 ⟨rfl,by omega,by show n<65536;omega⟩)).mono ?_
 rintro r w2 ⟨A2,c2,rfl,ho2,hx2⟩
 have HO2:=qj ho2
 have HX2:Hid (Ext w1 w2):=qj hx2
 have hsz2:=Ext.size HX2.out
 clear ho2 hx2
 go_wp2_with (at_builtin;refine zak rfl _ _ 45 rfl w1.heap.size 5 i0 Tryz.underlying45 hi hz0 hz1 hz2 _ 2 (vb (digs 2 n)) rfl HO2.out A1 15 c1 own rfl (HB1.out.ext HX2.out) (by omega) hsz2 ?_)
 intro v3 w3 hown hg
 obtain ⟨hx,A3,c3,rfl,_,ho3⟩:=zbL HX2.out HO2.out hg hown (zaV _ _) HB1.out.rd.lt
 have HO3:=qj ho3
 have HX3:=qj hx
 have hsz3:=Ext.size HX3.out
 clear hx ho3 hown hg hsz2 HO2 HX2
 go_wp2_with (at_builtin;refine zak rfl _ _ 45 rfl w1.heap.size 5 i0 Tryz.underlying45 hi hz0 hz1 hz2 _ (2+15) (vb (digs 2 n++own)) rfl HO3.out A n cp body rfl (HB.out.ext (HE.out.trans HX3.out)) (by omega) hsz3 ?_)
 intro v4 w4 hown hg
 obtain ⟨hx,A4,c4,rfl,_,ho4⟩:=zbL HX3.out HO3.out hg hown (by intro x hx;rcases List.mem_append.1 hx with h | h;exact zaV _ _ x h;exact HPlt.out x h) HB.out.rd.lt
 have HO4:=qj ho4
 have HX4:=qj hx
 clear hx ho4 hown hg hsz3 HO3 HX3
 have HPre:Hid (∀x∈digs 2 n++own++body,x<256):=qj (by
  intro x hx
  rcases List.mem_append.1 hx with h | h
  ·rcases List.mem_append.1 h with h | h
   ·exact zaV _ _ x h
   ·exact HPlt.out x h
  ·exact HB.out.rd.lt x h)
 go_wp2_with fail
 generalize digs 2 n++own++body=Pre at *
 go_loopw [10] (fun v wr=>∃k:Nat,k≤m∧∃A' c' L,v=.slice A' (17+n+k) c'∧Hid (L=Pre++List.replicate k 0)∧Hid (∀x∈L,x<256)∧Hid (wr.ownsRow w1.heap.size 5 1 (.slice A' (17+n+k) c') (17+n+k) (vb L))∧Hid (Ext w1 wr)) (fun v _=>17+n+m-ztN v)
 case atStart=>exact ⟨0,Nat.zero_le _,A4,c4,Pre,rfl,qj (by rw [List.replicate_zero,List.append_nil]),HPre,HO4,HX4⟩
 case round =>
  obtain ⟨k,hk,A5,c5,L,rfl,HLk,HLt,HO5,HX5⟩:=hrel
  have hsz5:=Ext.size HX5.out
  by_cases hlt:k<m
  ·obtain ⟨Z,hZ⟩:∃Z,Z=[0]:=⟨_,rfl⟩
   have hlit:=By.lit wr [0] 5 (by decide) (by decide) #[.int .u8 0] rfl
   rw [←hZ] at hlit
   have HY:Hid (By (wr.alloc (.cells #[.int .u8 0] 5)) (some ⟨wr.heap.size,0,none⟩) 1 1 Z):=qj (by rw [hZ] at hlit ⊢;exact hlit)
   have HZ1:Hid (Z=[0]):=qj hZ
   have hsz6:w1.heap.size≤(wr.alloc (.cells #[.int .u8 0] 5)).heap.size:=Nat.le_trans hsz5 (by simp)
   clear hlit hZ
   go_wp2_with (at_builtin;refine zak rfl _ _ 45 rfl w1.heap.size 5 i0 Tryz.underlying45 hi hz0 hz1 hz2 _ (17+n+k) (vb L) rfl (HO5.out.alloc _) (some ⟨wr.heap.size,0,none⟩) 1 1 Z rfl HY.out (by omega) hsz6 ?_)
   intro v6 w6 hown hg
   obtain ⟨hx,A6,c6,rfl,hb6,ho6⟩:=zbL (HX5.out.alloc _) (HO5.out.alloc _) hg hown HLt.out (by rw [HZ1.out];decide)
   have HL6:Hid (L++Z=Pre++List.replicate (k+1) 0):=qj (by rw [HZ1.out,HLk.out,zlO])
   have HLt6:=qj hb6.rd.lt
   have HO6:=qj ho6
   have HX6:=qj hx
   clear hx ho6 hown hg hsz6 HY HO5 HX5 hb6
   generalize L++Z=L6 at *
   go_wp2_with fail
   go_roundw
   case rel=>exact ⟨k+1,by omega,A6,c6,L6,rfl,HL6,HLt6,HO6,HX6⟩
   case measure=>simp [ztN];omega
  ·have hkm:k=m:=by omega
   subst hkm
   have hLF:L=frameH body own S:=HLk.out.trans HH.out
   have hs:crcS L<4294967296:=znG _ _
   have HZ:Hid (L++digs 4 (crcS L)=zbN body own S):=qj (by rw [hLF];rfl)
   have HB5:=qj (Bs.of_own HO5.out HLt.out)
   clear hLF
   generalize hz:crcS L=z at *
   go_wp2_with fail
   refine (ztA _ L _ _ _ HB5.out).mono ?_
   rw [hz]
   rintro r w6 ⟨rfl,rfl⟩
   have HZz:=qj hz
   clear hz
   go_wp2_with fail
   refine (zcI 4 z _ (zbs.2 ⟨rfl,by omega,by show z<4294967296;omega⟩)).mono ?_
   rintro r w7 ⟨A7,c7,rfl,ho7,hx7⟩
   obtain ⟨D,hD⟩:∃D,D=digs 4 z:=⟨_,rfl⟩
   have hb7:=Bs.of_own ho7 (zaV _ _)
   rw [←hD] at hb7
   have HZ:=HZ.out
   rw [←hD] at HZ
   have HZ:=qj HZ
   have HB7:Hid (By w7 A7 4 c7 D):=qj hb7
   have HX7:Hid (Ext wr w7):=qj hx7
   have HO7:=qj (zck HO5.out HX7.out)
   have HX:=qj (HX5.out.trans HX7.out)
   have hsz7:=Ext.size HX.out
   clear ho7 hx7 hb7 hD
   go_wp2_with (at_builtin;refine zak rfl _ _ 45 rfl w1.heap.size 5 i0 Tryz.underlying45 hi hz0 hz1 hz2 _ (17+n+k) (vb L) rfl HO7.out A7 4 c7 D rfl HB7.out (by omega) hsz7 ?_)
   intro v8 w8 hown hg
   have e8:17+n+k+4=64 * S:=by omega
   rw [e8] at hown
   obtain ⟨hx,A8,c8,rfl,hb8,ho8⟩:=zbL HX.out HO7.out hg hown HLt.out HB7.out.rd.lt
   rw [HZ.out] at hb8 ho8
   have HB8:=qj hb8
   have HO8:=qj (zpg ho8 HE.out.size)
   have HE8:=qj (HE.out.trans hx)
   clear hx hb8 ho8 hown hg hsz7 e8
   go_wp2_with fail
   go_ret2
   exact ⟨A8,c8,rfl,by rw [HPL.out];exact HB8.out,HE8.out,by rw [HPL.out];exact HO8.out⟩
theorem zeD (a b c d e s:Int) (A:Option Addr) (n cp:Nat) (body:List Nat) (w:World) (hb:By w A n cp body) :
 Calls Tryz.prog 45 #[.agg #[a,b,c,d,e],.slice A n cp,s] w fun r w'=>∃A' c',r=.returned (.tuple #[.slice A' (sealL a b c d e body s).length c',.int .i64 (sealE a b c d e n s)])∧By w' A' (sealL a b c d e body s).length c' (sealL a b c d e body s)∧Ext w w'∧w'.ownsRow w.heap.size 5 1 (.slice A' (sealL a b c d e body s).length c') (sealL a b c d e body s).length (vb (sealL a b c d e body s)):=by
 have hlen:body.length=n:=Bs.len hb
 by_cases h:roomN s=0∨mayB a b c d e=false
 ·have hE:=zeG (n:=n) h
  rw [zfl (by rw [hlen,hE];omega),hE]
  exact (zoD a b c d e s A n cp w h).mono fun _ w' ⟨h1,h2⟩=>⟨none,0,h1,By.nil_ w',h2,World.ownsRow_nil _ _ _ _⟩
 ·have h0:roomN s≠0:=fun hh=>h (.inl hh)
  have hm:mayB a b c d e=true:=by
   by_cases hm:mayB a b c d e=true
   ·exact hm
   ·exact absurd (.inr (by simpa using hm)) h
  by_cases hn:roomN s<n
  ·have hE:=zdF h0 hm hn
   rw [zfl (by rw [hlen,hE];omega),hE]
   exact (zlS a b c d e s A n cp w h0 hm hn).mono fun _ w' ⟨h1,h2⟩=>⟨none,0,h1,By.nil_ w',h2,World.ownsRow_nil _ _ _ _⟩
  ·obtain ⟨S,rfl⟩:=Int.eq_ofNat_of_zero_le (show 0≤s by have:=zev (s:=s) (by omega);omega)
   have hE:=zbD h0 hm (show n≤roomN (S:Int) by omega)
   have hfit:=zdq (show n≤roomN (S:Int) by omega) (by omega)
   rw [zex (by rw [hlen];exact hE),hE,Int.toNat_natCast,zeS (by rw [zdd hm,zaS]) (by omega) (by omega)]
   exact zir a b c d e S A n cp body w hb h0 hm (by omega)
theorem ziR (a b c d e s:Int) (A:Option Addr) (n cp:Nat) (body:List Nat) (w:World) (hb:By w A n cp body) :
 Calls Tryz.prog 45 #[.agg #[a,b,c,d,e],.slice A n cp,s] w fun r w'=>∃A' c',r=.returned (.tuple #[.slice A' (sealL a b c d e body s).length c',.int .i64 (sealE a b c d e n s)])∧By w' A' (sealL a b c d e body s).length c' (sealL a b c d e body s)∧Ext w w' :=
 (zeD a b c d e s A n cp body w hb).mono fun _ _ ⟨A',c',h1,h2,h3,_⟩=>⟨A',c',h1,h2,h3⟩
theorem zsu (w:World):(sizeOf (Tryz.prog.elem 45)).run Tryz.prog w=.ok 1 w:=by
 have ht:Tryz.prog.elem 45=5:=by kernel_rfl
 obtain ⟨i0,hi,_,hz1,_⟩:=info_parts zay
 rw [ht]
 simp [Go.sizeOf,typeInfo,hi,hz1]
theorem zcX (g o n cp l h:Nat) (hl:l<cp) (hlh:l≤h) (hh:h≤cp) (w:World):(Instr.slice 45 (.slice (some ⟨g,o,none⟩) n cp) (some (.int .i64 (l:Int))) (some (.int .i64 (h:Int))) none).run Tryz.prog w=.ok (.slice (some ⟨g,o+l,none⟩) (h-l) (cp-l)) w:=by
 have ht:Tryz.prog.elem 45=5:=by kernel_rfl
 rw [run_slice_lh w 45 (some ⟨g,o,none⟩) n cp (by rw [ht];exact Tryz.underlying45) .i64 .i64 (l:Int) (h:Int) (by omega) (by omega) (by omega),zsu]
 simp only [Result.andThen,sliced,Int.toNat_natCast,Nat.mul_one]
 rw [if_neg (by omega)]
 simp [Addr.add]
end Go.Proofs.YtdbpdhlecgoclaaGreatDoor
