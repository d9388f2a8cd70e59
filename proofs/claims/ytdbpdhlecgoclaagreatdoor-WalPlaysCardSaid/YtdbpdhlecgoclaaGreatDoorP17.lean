/-
  The contract of the document's own Parse.
-/
import Derived.Test.YtdbpdhlecgoclaaGreatDoorP00
import Derived.Test.YtdbpdhlecgoclaaGreatDoorP07
import Derived.Test.YtdbpdhlecgoclaaGreatDoorP08
import Derived.Test.YtdbpdhlecgoclaaGreatDoorP16
import Derived.Deep.RegionHeld3
import Derived.IntWalk
namespace Go.Proofs.YtdbpdhlecgoclaaGreatDoor
set_option maxRecDepth 100000
set_option maxHeartbeats 6400000
open Go Go.RowKit
theorem zsI (x:Nat):num [x]=x:=by simp [num]
theorem zgl {l:List Nat} {k x:Nat} (hk:k<3) (h:l[k]?=some x):pfld l k=x:=by
 have hj:k=0∨k=1∨k=2:=by omega
 have hp:pos k=k∧wth k=1:=by rcases hj with rfl | rfl | rfl <;> exact ⟨rfl,rfl⟩
 have hl:k<l.length:=(List.getElem?_eq_some_iff.1 h).1
 unfold pfld
 rw [hp.1,hp.2,List.drop_eq_getElem_cons hl,List.take_succ_cons,List.take_zero,zsI]
 rw [List.getElem?_eq_getElem hl] at h
 exact Option.some.inj h
theorem zhf (A:Option Addr) (n cp:Nat) (l:List Nat) (w:World) (hb:By w A n cp l) (hn:n≤9000000000000000000) :
 Calls Tryz.prog 189 #[.slice A n cp] w fun r w'=>r=.returned (.tuple #[.agg #[.int .i64 (pf l 0),.int .i64 (pf l 1),.int .i64 (pf l 2),.int .i64 (pf l 3),.int .i64 (pf l 4)],.int .i64 (pe l)])∧Ext w w':=by
 have hE:=(Ext.refl w).alloc (.cells Zk.c 44)
 have hz:(w.alloc (.cells Zk.c 44)).heap[w.heap.size]?=some (.cells Zk.c 44 (0,0)):=heap_alloc_new w _
 have HB:=qj (hb.ext hE)
 have HE:=qj hE
 have HZ:=qj hz
 by_cases h15:n=15
 ·subst h15
  have HG3:=qj (zjS (l:=l) (k:=3) (by omega) (by rw [hb.len];decide))
  have HG4:=qj (zjS (l:=l) (k:=4) (by omega) (by rw [hb.len];decide))
  obtain ⟨g,o,x0,hA,hg,h0,hx0,c0⟩:=HB.out.rd.at_ (k:=0) (by rw [HB.out.len];omega)
  subst hA
  obtain ⟨g',o',x1,hA,_,h1,hx1,c1⟩:=HB.out.rd.at_ (k:=1) (by rw [HB.out.len];omega)
  injection hA with hA;injection hA with hA1 hA2;subst hA1;subst hA2
  obtain ⟨g',o',x2,hA,_,h2,hx2,c2⟩:=HB.out.rd.at_ (k:=2) (by rw [HB.out.len];omega)
  injection hA with hA;injection hA with hA1 hA2;subst hA1;subst hA2
  have HP0:=qj (zgl (by omega) h0)
  have HP1:=qj (zgl (by omega) h1)
  have HP2:=qj (zgl (by omega) h2)
  have HL:=qj hb.len
  clear hb hE hz h0 h1 h2
  go_enter Tryz.func189,Tryz.ntmps189
  go_wp2_with fail
  refine (zbT (some ⟨g,o,none⟩) l 15 cp _ 3 6 _ HB.out.len HB.out.rd (by omega)).mono ?_
  rw [show getS l 3 6=(pfld l 3,9,0) from HG3.out]
  rintro r w2 ⟨rfl,rfl⟩
  go_wp2_with fail
  refine (zbT (some ⟨g,o,none⟩) l 15 cp _ 9 6 _ HB.out.len HB.out.rd (by omega)).mono ?_
  rw [show getS l 9 6=(pfld l 4,15,0) from HG4.out]
  rintro r w2 ⟨rfl,rfl⟩
  go_wp2_with fail
  generalize (w.alloc (.cells Zk.c 44))=W at *
  have hne:=World.new_ne W _ c0
  rw [Nat.add_zero] at c0
  have e0:IntKind.i64.wrap (x0:Int)=(x0:Int):=IntWalk.i64_in _ (by omega)
  have e1:IntKind.i64.wrap (x1:Int)=(x1:Int):=IntWalk.i64_in _ (by omega)
  have e2:IntKind.i64.wrap (x2:Int)=(x2:Int):=IntWalk.i64_in _ (by omega)
  go_region_held3 (fun w'=>w'.cell? (aD g o)=some (.int .u8 x0)∧w'.cell? (aD g (o+1))=some (.int .u8 x1)∧w'.cell? (aD g (o+2))=some (.int .u8 x2))
   (first | with_reducible exact ⟨c0,c1,c2⟩ | go_keep)
   (first | (go_at_call 0;fail))
  clear e0 e1 e2 c0 c1 c2 hne
  have hx1:Ext W (W.alloc (.cells #[.int .i64 x0,.int .i64 x1,.int .i64 x2,.int .i64 (pfld l 3),.int .i64 (pfld l 4)] 44)).drew:=((Ext.refl W).alloc _).drew
  have hlt0:w.heap.size<W.heap.size:=(Array.getElem?_eq_some_iff.1 HZ.out).1
  have hz1:=(hx1.block _ hlt0).trans HZ.out
  have hr1:(W.alloc (.cells #[.int .i64 x0,.int .i64 x1,.int .i64 x2,.int .i64 (pfld l 3),.int .i64 (pfld l 4)] 44)).drew.heap[W.heap.size]?=some (.cells #[.int .i64 x0,.int .i64 x1,.int .i64 x2,.int .i64 (pfld l 3),.int .i64 (pfld l 4)] 44 (0,0)):=heap_alloc_new W _
  have HZ1:=qj hz1
  have HR1:=qj hr1
  have HX1:=qj (HE.out.trans hx1)
  clear hx1 hlt0 hz1 hr1
  by_cases hm:mayB (x0:Int) x1 x2 (pfld l 3) (pfld l 4)=true
  ·have HM:=qj hm
   have HV:=qj (znk HL.out (by rw [HP0.out,HP1.out,HP2.out];exact hm))
   clear hm
   go_wp2_with fail
   refine (zfx _ _ _ _ _ _).mono ?_
   rw [HM.out]
   rintro r w3 ⟨rfl,hx⟩
   have hb2:=(hx.block _ (Array.getElem?_eq_some_iff.1 HZ1.out).1).trans HZ1.out
   have hr2:=(hx.block _ (Array.getElem?_eq_some_iff.1 HR1.out).1).trans HR1.out
   have HE:=qj (HX1.out.trans hx)
   clear hx
   obtain ⟨⟨c0,c1,c2,c3,c4⟩,f0,f1,f2,f3,f4⟩:=zac hb2
   obtain ⟨⟨d0,d1,d2,d3,d4⟩,_⟩:=zac hr2
   clear hb2 hr2
   go_wp2_with fail
   refine bodyPost_ret (v:=.tuple #[.agg #[.int .i64 x0,.int .i64 x1,.int .i64 x2,.int .i64 (pfld l 3),.int .i64 (pfld l 4)],.int .i64 0]) ?_ rfl ⟨?_,?_⟩
   ·simp [results,Tryz.results189,go_sem,c0,c1,c2,c3,c4]
   ·rw [zaX HV.out,zaX HV.out,zaX HV.out,zaX HV.out,zaX HV.out,zfD HV.out,HP0.out,HP1.out,HP2.out]
   ·exact zal HE.out (Nat.le_refl _) _ _ _ _ _
  ·have hm':mayB (x0:Int) x1 x2 (pfld l 3) (pfld l 4)=false:=by simpa using hm
   have HM:=qj hm'
   have HV:=qj (zrq (l:=l) (by rw [HP0.out,HP1.out,HP2.out];exact hm'))
   clear hm hm'
   go_wp2_with fail
   refine (zfx _ _ _ _ _ _).mono ?_
   rw [HM.out]
   rintro r w3 ⟨rfl,hx⟩
   have hb2:=(hx.block _ (Array.getElem?_eq_some_iff.1 HZ1.out).1).trans HZ1.out
   have HE:=qj (HX1.out.trans hx)
   clear hx
   obtain ⟨⟨c0,c1,c2,c3,c4⟩,f0,f1,f2,f3,f4⟩:=zac hb2
   clear hb2
   go_wp2_with fail
   refine bodyPost_ret (v:=.tuple #[.agg Zk.c,.int .i64 30]) ?_ rfl ⟨?_,?_⟩
   ·simp [results,Tryz.results189,go_sem,c0,c1,c2,c3,c4]
   ·rw [zaG HV.out,zaG HV.out,zaG HV.out,zaG HV.out,zaG HV.out,zgt HV.out];rfl
   ·exact zal HE.out (Nat.le_refl _) _ _ _ _ _
 ·have HV:=qj (zmz (l:=l) (by rw [hb.len];exact h15))
  have hne:((n:Int) != (15:Int))=true:=by rw [bne_iff_ne];omega
  obtain ⟨⟨c0,c1,c2,c3,c4⟩,f0,f1,f2,f3,f4⟩:=zac hz
  clear hb hE hz h15
  go_enter Tryz.func189,Tryz.ntmps189
  go_wp2_with fail
  refine bodyPost_ret (v:=.tuple #[.agg Zk.c,.int .i64 30]) ?_ rfl ⟨?_,?_⟩
  ·simp [results,Tryz.results189,go_sem,c0,c1,c2,c3,c4]
  ·rw [zaG HV.out,zaG HV.out,zaG HV.out,zaG HV.out,zaG HV.out,zgt HV.out];rfl
  ·exact HE.out
theorem ziE {l:List Nat} {x0 x1:Nat} (h0:l[0]?=some x0) (h1:l[1]?=some x1):bodyN l=x0+256 * x1:=by
 unfold bodyN
 match l,h0,h1 with
 | a :: b :: l,h0,h1 =>
  simp at h0 h1
  subst h0;subst h1
  simp [num]
theorem zkr (A:Option Addr) (n cp:Nat) (l:List Nat) (w:World) (hb:By w A n cp l) (h:szB l=false∨zaO l=true) :
 Calls Tryz.prog 169 #[.slice A n cp] w fun r w'=>r=.returned (.tuple #[.int .u8 (stN l),.agg Zk.c,.slice none 0 0])∧Ext w w':=by
 have hz:=heap_alloc_new w (.cells Zk.c 44)
 have hE:=(Ext.refl w).alloc (.cells Zk.c 44)
 have HN:Hid (l.length=n):=qj (Bs.len hb)
 have hmost:n≤9223372036854775807:=Nat.le_trans (Bs.cap hb) (Bs.most hb)
 have HB:=qj hb
 have HE:=qj hE
 have HZ:=qj hz
 obtain ⟨⟨c0,c1,c2,c3,c4⟩,f0,f1,f2,f3,f4⟩:=zac hz
 clear hb hE hz
 by_cases hs:szB l=false
 ·have HS:=qj (zhV hs)
  by_cases h64:n%64=0
  ·have hr:=znl hs
   rw [HN.out] at hr
   have hw:wsN n=n/64:=by unfold wsN;rw [if_pos h64]
   rw [hw] at hr
   have HR:Hid (roomN ((n:Int)/64)=0):=qj (by rw [show (n:Int)/64=((n/64:Nat):Int) from by omega];exact hr)
   clear hs h hr hw
   go_enter Tryz.func169,Tryz.ntmps169
   go_wp2_with fail
   refine (zaW _ _).mono ?_
   rw [HR.out]
   rintro r w1 ⟨rfl,rfl⟩
   go_wp2_with fail
   refine bodyPost_ret (v:=.tuple #[.int .u8 2,.agg Zk.c,.slice none 0 0]) ?_ rfl ?_
   ·simp [results,Tryz.results169,go_sem,c0,c1,c2,c3,c4]
   ·exact ⟨by rw [HS.out];rfl,HE.out⟩
  ·clear hs h
   go_enter Tryz.func169,Tryz.ntmps169
   go_wp2_with fail
   refine bodyPost_ret (v:=.tuple #[.int .u8 2,.agg Zk.c,.slice none 0 0]) ?_ rfl ?_
   ·simp [results,Tryz.results169,go_sem,c0,c1,c2,c3,c4]
   ·exact ⟨by rw [HS.out];rfl,HE.out⟩
 ·have hs':szB l=true:=by simpa using hs
  have hz':zaO l=true:=by rcases h with h | h;exact absurd h hs;exact h
  have HS:=qj (zji hs' hz')
  have hr:=zdV hs'
  rw [HN.out] at hr
  have hsz:=zcY.1 hs'
  rw [HN.out] at hsz
  have hg:(((roomN ((n:Int)/64):Nat):Int) == 0)=false:=by
   rw [show (n:Int)/64=((n/64:Nat):Int) from by omega]
   simpa using hr
  have h64:n%64=0:=by omega
  have HZB:=qj hz'
  clear hs h hs' hz' hr hsz
  go_enter Tryz.func169,Tryz.ntmps169
  go_wp2_with fail
  refine (zaW _ _).mono ?_
  rintro r w1 ⟨rfl,rfl⟩
  generalize roomN ((n:Int)/64)=R at *
  go_wp2_with fail
  refine (zfR A n cp l _ (HB.out.ext HE.out)).mono ?_
  rw [HZB.out]
  rintro r w1 ⟨rfl,rfl⟩
  go_wp2_with fail
  refine bodyPost_ret (v:=.tuple #[.int .u8 0,.agg Zk.c,.slice none 0 0]) ?_ rfl ?_
  ·simp [results,Tryz.results169,go_sem,c0,c1,c2,c3,c4]
  ·exact ⟨by rw [HS.out];rfl,HE.out⟩
theorem zrL (A:Option Addr) (cp:Nat) (l:List Nat) (w:World) (hb:By w A 64 cp l) (hzb:zaO l=false) :
 Calls Tryz.prog 169 #[.slice A 64 cp] w fun r w'=>∃A' N c',r=.returned (.tuple #[.int .u8 (stN l),.agg #[.int .i64 (ofl l 0),.int .i64 (ofl l 1),.int .i64 (ofl l 2),.int .i64 (ofl l 3),.int .i64 (ofl l 4)],.slice A' N c'])∧By w' A' N c' (obl l)∧(∀g o,A'=some ⟨g,o,none⟩→0<N→w.heap.size≤g)∧Ext w w':=by
 have hz:=heap_alloc_new w (.cells Zk.c 44)
 have hE:=(Ext.refl w).alloc (.cells Zk.c 44)
 have hlen:l.length=64:=Bs.len hb
 have hcap:64≤cp:=Bs.cap hb
 have hmost:=Bs.most hb
 have hszB:szB l=true:=zcY.2 (by omega)
 have HSZ:=qj hszB
 have HLen:Hid (l.length=64):=qj hlen
 obtain ⟨g,o,x0,hA,hgB,h0,hx0,c0⟩:=hb.rd.at_ (k:=0) (by omega)
 subst hA
 obtain ⟨g',o',x1,hA,_,h1,hx1,c1⟩:=hb.rd.at_ (k:=1) (by omega)
 injection hA with hA;injection hA with hA1 hA2;subst hA1;subst hA2
 have hbn:=ziE h0 h1
 have hc0:=Ext.cell hE c0
 have hc1:=Ext.cell hE c1
 rw [Nat.add_zero] at hc0
 have HSub:Hid (By w (some ⟨g,o+2,none⟩) 15 (cp-2) (zad l)):=qj (hb.sub 2 15 (cp-2) (by omega) (by omega) (by omega))
 have HB:=qj hb
 have HE:=qj hE
 have HZ:=qj hz
 have HZB:=qj hzb
 have HBN:=qj hbn
 clear hb hE hz hzb hlen hszB h0 h1 c0 c1 hbn hgB
 go_enter Tryz.func169,Tryz.ntmps169
 go_wp2_with fail
 refine (zaW _ _).mono ?_
 rw [show roomN 1=43 from rfl]
 rintro r w1 ⟨rfl,rfl⟩
 go_wp2_with fail
 refine (zfR _ 64 cp l _ (HB.out.ext HE.out)).mono ?_
 rw [HZB.out]
 rintro r w1 ⟨rfl,rfl⟩
 go_wp2_with fail
 generalize (w.alloc (.cells Zk.c 44))=W at *
 have e0:IntKind.i64.wrap (x0:Int)=(x0:Int):=IntWalk.i64_in _ (by omega)
 have e1:IntKind.i64.wrap (x1:Int)=(x1:Int):=IntWalk.i64_in _ (by omega)
 have e2:IntKind.i64.wrap (256 * (x1:Int))=256 * (x1:Int):=IntWalk.i64_in _ (by omega)
 have e3:IntKind.i64.wrap ((x0:Int)+256 * (x1:Int))=((x0+256 * x1:Nat):Int):=by rw [IntWalk.i64_in _ (by omega)];omega
 go_region_held3 (fun w'=>w'.cell? (aD g o)=some (.int .u8 x0)∧w'.cell? (aD g (o+1))=some (.int .u8 x1))
  (first | with_reducible exact ⟨hc0,hc1⟩ | go_keep)
  (first | (go_at_call 0;fail))
 clear e0 e1 e2 e3 hc0 hc1
 rw [show (x0:Int)+256 * (x1:Int)=((bodyN l:Nat):Int) from by rw [HBN.out];omega]
 have hx:Ext W W.drew:=(Ext.refl W).drew
 have HE:=qj (HE.out.trans hx)
 have HZ:=qj ((hx.block _ (Array.getElem?_eq_some_iff.1 HZ.out).1).trans HZ.out)
 generalize W.drew=W1 at *
 clear hx
 have hN16:bodyN l<65536:=by rw [HBN.out];omega
 generalize hbN:bodyN l=N at *
 have HBqN:=qj hbN
 clear hbN HBN
 have hs3:∀w,(Instr.slice 45 (.slice (some ⟨g,o,none⟩) 64 cp) (some (.int .i64 2)) (some (.int .i64 17)) none).run Tryz.prog w=.ok (.slice (some ⟨g,o+2,none⟩) 15 (cp-2)) w:=zcX g o 64 cp 2 17 (by omega) (by omega) (by omega)
 go_wp2_with fail
 refine (zhf _ 15 (cp-2) (zad l) _ (HSub.out.ext HE.out) (by omega)).mono ?_
 by_cases hv:PV (zad l)=true
 ·rw [zfD hv]
  rintro r w2 ⟨rfl,hx2⟩
  have hx:=hx2.alloc (.cells #[.int .i64 (pf (zad l) 0),.int .i64 (pf (zad l) 1),.int .i64 (pf (zad l) 2),.int .i64 (pf (zad l) 3),.int .i64 (pf (zad l) 4)] 44)
  have hr2:=heap_alloc_new w2 (.cells #[.int .i64 (pf (zad l) 0),.int .i64 (pf (zad l) 1),.int .i64 (pf (zad l) 2),.int .i64 (pf (zad l) 3),.int .i64 (pf (zad l) 4)] 44)
  have HZ1:Hid (W1.heap[w.heap.size]?=_):=HZ
  have hlt1:=Ext.size (show Ext W1 w2 from hx2)
  have hz1:=(hx.block _ (Array.getElem?_eq_some_iff.1 HZ.out).1).trans HZ.out
  have HE:=qj (HE.out.trans hx)
  have HZ:=qj hz1
  have HR2:=qj hr2
  obtain ⟨⟨c0,c1,c2,c3,c4⟩,f0,f1,f2,f3,f4⟩:=zac hz1
  clear hx hz1 hr2 hs3
  by_cases hle:N≤43
  ·have hNc:(17:Int)+(N:Int)=((17+N:Nat):Int):=by omega
   have hs4:∀w,(Instr.slice 45 (.slice (some ⟨g,o,none⟩) 64 cp) (some (.int .i64 17)) (some (.int .i64 (17+(N:Int)))) none).run Tryz.prog w=.ok (.slice (some ⟨g,o+17,none⟩) N (cp-17)) w:=fun w=>by
    have h:=zcX g o 64 cp 17 (17+N) (by omega) (by omega) (by omega) w
    rw [show 17+N-17=N from by omega] at h
    rw [hNc]
    exact h
   have ho:okB l=true:=zgB hv (by rw [HLen.out,HBqN.out];omega)
   have hre:reE l=0:=by
    unfold reE
    rw [zap ho,zap ho,zap ho,zap ho,zap ho,zce ho,zbk (zbY ho).2,HBqN.out,HLen.out]
    exact zbD (by decide) (zjt hv) (by show N≤43;exact hle)
   have hgood:=zlJ HSZ.out HB.out.rd.lt hre
   have HRE:Hid (sealE (pf (zad l) 0) (pf (zad l) 1) (pf (zad l) 2) (pf (zad l) 3) (pf (zad l) 4) N 1=0):=qj (by
    have:=hre
    unfold reE at this
    rw [zap ho,zap ho,zap ho,zap ho,zap ho,zce ho,zbk (zbY ho).2,HBqN.out,HLen.out] at this
    exact this)
   have HRL:Hid (sealL (pf (zad l) 0) (pf (zad l) 1) (pf (zad l) 2) (pf (zad l) 3) (pf (zad l) 4) (zaH l) 1=reL l):=qj (by
    unfold reL
    rw [zap ho,zap ho,zap ho,zap ho,zap ho,zce ho,HLen.out]
    rfl)
   have HBd:Hid (By w (some ⟨g,o+17,none⟩) N (cp-17) (zaH l)):=qj (by
    have:=HB.out.sub 17 N (cp-17) (by omega) (by omega) (by omega)
    unfold zaH
    rw [HBqN.out]
    exact this)
   have HGD:=qj hgood
   clear hNc ho hre hgood hv
   go_wp2_with fail
   refine (zaW _ _).mono ?_
   rw [show roomN 1=43 from rfl]
   rintro r w3 ⟨rfl,rfl⟩
   go_wp2_with fail
   refine (zcy _ (zaH l) N (cp-17) _ (HBd.out.ext HE.out) (by omega)).mono ?_
   rintro r w4 ⟨A4,c4',rfl,hb4,hx,hown⟩
   have hge:∀g o,A4=some ⟨g,o,none⟩→0<N→w.heap.size+1≤g:=by
    intro g o hA hN
    obtain ⟨g2,cap,hv2⟩:=Go.Joins.ownsRow_form hown hN
    injection hv2 with hv2 _ _
    rw [hA] at hv2
    injection hv2 with hv2
    injection hv2 with hv2 _
    subst hv2
    have h1:=(hown.lt g (by rw [hA];rfl)).1
    have h2:=(Array.getElem?_eq_some_iff.1 HZ.out).1
    omega
   have HGe:=qj hge
   have HB4:=qj hb4
   have hz1:=(hx.block _ (Array.getElem?_eq_some_iff.1 HZ.out).1).trans HZ.out
   have hr1:=(hx.block _ (Array.getElem?_eq_some_iff.1 HR2.out).1).trans HR2.out
   have HE:=qj (HE.out.trans hx)
   have HZ:=qj hz1
   have HR2:=qj hr1
   clear hx hown hge hb4 c0 c1 c2 c3 c4 f0 f1 f2 f3 f4 hs4
   obtain ⟨⟨d0,d1,d2,d3,d4⟩,_⟩:=zac hr1
   clear hz1 hr1
   go_wp2_with fail
   refine (ziR _ _ _ _ _ _ _ _ _ (zaH l) _ HB4.out).mono ?_
   rw [HRE.out,HRL.out]
   rintro r w5 ⟨A5,c5,rfl,hb5,hx⟩
   have HB5:=qj hb5
   have HB4:=qj (HB4.out.ext hx)
   have hz1:=(hx.block _ (Array.getElem?_eq_some_iff.1 HZ.out).1).trans HZ.out
   have hr1:=(hx.block _ (Array.getElem?_eq_some_iff.1 HR2.out).1).trans HR2.out
   have HE:=qj (HE.out.trans hx)
   have HZ:=qj hz1
   have HR2:=qj hr1
   clear hx hb5 d0 d1 d2 d3 d4 hz1 hr1
   generalize reL l=RL at *
   go_wp2_with fail
   refine (zns _ _ RL l _ _ _ _ _ HB5.out (HB.out.ext HE.out)).mono ?_
   by_cases hg2:RL=l
   ·rw [decide_eq_true hg2]
    have hgd:zat l=true:=by rw [HGD.out,decide_eq_true hg2]
    have HF:Hid (∀k,pf (zad l) k=ofl l k):=qj fun k=>(zjZ hgd k).symm
    have HQ:Hid (zaH l=obl l):=qj (zjG hgd).symm
    have HST:=qj (zdv hgd)
    clear hgd hg2
    rintro r w6 ⟨rfl,hx⟩
    have HB4:=qj (HB4.out.ext hx)
    have hz1:=(hx.block _ (Array.getElem?_eq_some_iff.1 HZ.out).1).trans HZ.out
    have hr1:=(hx.block _ (Array.getElem?_eq_some_iff.1 HR2.out).1).trans HR2.out
    have HE:=qj (HE.out.trans hx)
    have HZ:=qj hz1
    have HR2:=qj hr1
    obtain ⟨⟨c0,c1,c2,c3,c4⟩,f0,f1,f2,f3,f4⟩:=zac hz1
    obtain ⟨⟨d0,d1,d2,d3,d4⟩,_⟩:=zac hr1
    clear hx hz1 hr1
    go_wp2_with fail
    generalize hh2:w2.heap.size=h2 at *
    generalize hh0:w.heap.size=h0 at *
    have HN0:=qj hh0
    have hne:h0≠h2:=by have:=(Array.getElem?_eq_some_iff.1 HZ1.out).1;omega
    clear hh0 hh2
    go_region_held3 (fun w'=>(CW.mk w' h2 [.int .i64 (pf (zad l) 0),.int .i64 (pf (zad l) 1),.int .i64 (pf (zad l) 2),.int .i64 (pf (zad l) 3),.int .i64 (pf (zad l) 4)]:Prop))
     (first | with_reducible exact ⟨d0,d1,d2,d3,d4⟩ | with_reducible exact ⟨zaj hne d0 _ _ _ _ _,zaj hne d1 _ _ _ _ _,zaj hne d2 _ _ _ _ _,zaj hne d3 _ _ _ _ _,zaj hne d4 _ _ _ _ _⟩ | go_keep)
     (first | (go_at_call 0;fail))
    have hrow:=zaD HZ.out (.int .i64 (pf (zad l) 0)) (.int .i64 (pf (zad l) 1)) (.int .i64 (pf (zad l) 2)) (.int .i64 (pf (zad l) 3)) (.int .i64 (pf (zad l) 4))
    have hx:=zal HE.out (g:=h0) (Nat.le_of_eq HN0.out) (.int .i64 (pf (zad l) 0)) (.int .i64 (pf (zad l) 1)) (.int .i64 (pf (zad l) 2)) (.int .i64 (pf (zad l) 3)) (.int .i64 (pf (zad l) 4))
    have hby:=HB4.out.five (h0:=h0) (fun g o hA hN=>by have:=HGe.out g o hA hN;omega) (.int .i64 (pf (zad l) 0)) (.int .i64 (pf (zad l) 1)) (.int .i64 (pf (zad l) 2)) (.int .i64 (pf (zad l) 3)) (.int .i64 (pf (zad l) 4))
    clear c0 c1 c2 c3 c4 f0 f1 f2 f3 f4 d0 d1 d2 d3 d4
    generalize ((SW.mk w6 h0 [.int .i64 (pf (zad l) 0),.int .i64 (pf (zad l) 1),.int .i64 (pf (zad l) 2),.int .i64 (pf (zad l) 3),.int .i64 (pf (zad l) 4)]:World))=V at hrow hx hby ⊢
    obtain ⟨⟨e0,e1,e2,e3,e4⟩,_⟩:=zac hrow
    have HB4:=qj (hby.ext ((Ext.refl V).drew))
    have HX:=qj hx.drew
    clear hrow hx hby
    go_wp2_with fail
    refine bodyPost_ret (v:=.tuple #[.int .u8 1,.agg #[.int .i64 (pf (zad l) 0),.int .i64 (pf (zad l) 1),.int .i64 (pf (zad l) 2),.int .i64 (pf (zad l) 3),.int .i64 (pf (zad l) 4)],.slice A4 N c4']) ?_ rfl ?_
    ·simp [results,Tryz.results169,go_sem,e0,e1,e2,e3,e4]
    ·exact ⟨A4,N,c4',by rw [HF.out,HF.out,HF.out,HF.out,HF.out,HST.out];rfl,by rw [←HQ.out];exact HB4.out,fun g o hA hN=>by have h1:=HGe.out g o hA hN;have h2:=HN0.out;omega,HX.out⟩
   ·rw [decide_eq_false hg2]
    have hgd:zat l=false:=by rw [HGD.out,decide_eq_false hg2]
    have HF:Hid (∀k,ofl l k=0):=qj (zaY hgd)
    have HQ:Hid (obl l=[]):=qj (zcs hgd)
    have HST:=qj (zcW HZB.out hgd)
    clear hgd hg2
    rintro r w6 ⟨rfl,hx⟩
    have hz1:=(hx.block _ (Array.getElem?_eq_some_iff.1 HZ.out).1).trans HZ.out
    have HE:=qj (HE.out.trans hx)
    obtain ⟨⟨c0,c1,c2,c3,c4⟩,f0,f1,f2,f3,f4⟩:=zac hz1
    clear hx hz1
    go_wp2_with fail
    refine bodyPost_ret (v:=.tuple #[.int .u8 2,.agg Zk.c,.slice none 0 0]) ?_ rfl ?_
    ·simp [results,Tryz.results169,go_sem,c0,c1,c2,c3,c4]
    ·exact ⟨none,0,0,by rw [HF.out,HF.out,HF.out,HF.out,HF.out,HST.out];rfl,by rw [HQ.out];exact By.nil_ _,fun g o hA hN=>absurd hN (by omega),zal HE.out (Nat.le_refl _) _ _ _ _ _⟩
  ·have hgd:zat l=false:=by
    by_cases hg:zat l=true
    ·have h3:=(zbA hg).2.2.1
     rw [HLen.out,HBqN.out] at h3
     exact absurd (show N≤43 from h3) hle
    ·simpa using hg
   have HF:Hid (∀k,ofl l k=0):=qj (zaY hgd)
   have HQ:Hid (obl l=[]):=qj (zcs hgd)
   have HST:=qj (zcW HZB.out hgd)
   clear hgd hv
   go_wp2_with fail
   refine (zaW _ _).mono ?_
   rw [show roomN 1=43 from rfl]
   rintro r w3 ⟨rfl,rfl⟩
   go_wp2_with fail
   refine bodyPost_ret (v:=.tuple #[.int .u8 2,.agg Zk.c,.slice none 0 0]) ?_ rfl ?_
   ·simp [results,Tryz.results169,go_sem,c0,c1,c2,c3,c4]
   ·exact ⟨none,0,0,by rw [HF.out,HF.out,HF.out,HF.out,HF.out,HST.out];rfl,by rw [HQ.out];exact By.nil_ _,fun g o hA hN=>absurd hN (by omega),zal HE.out (Nat.le_refl _) _ _ _ _ _⟩
 ·have hv':PV (zad l)=false:=by simpa using hv
  have hgd:zat l=false:=by
   by_cases hg:zat l=true
   ·rw [(zbA hg).2.1] at hv';cases hv'
   ·simpa using hg
  have HF:Hid (∀k,ofl l k=0):=qj (zaY hgd)
  have HQ:Hid (obl l=[]):=qj (zcs hgd)
  have HST:=qj (zcW HZB.out hgd)
  rw [zgt hv',zaG hv',zaG hv',zaG hv',zaG hv',zaG hv']
  rintro r w2 ⟨rfl,hx2⟩
  have hx:=hx2.alloc (.cells Zk.c 44)
  have hz1:=(hx.block _ (Array.getElem?_eq_some_iff.1 HZ.out).1).trans HZ.out
  have HE:=qj (HE.out.trans hx)
  obtain ⟨⟨c0,c1,c2,c3,c4⟩,f0,f1,f2,f3,f4⟩:=zac hz1
  clear hx hz1 hs3 hv hv' hgd
  go_wp2_with fail
  refine bodyPost_ret (v:=.tuple #[.int .u8 2,.agg Zk.c,.slice none 0 0]) ?_ rfl ?_
  ·simp [results,Tryz.results169,go_sem,c0,c1,c2,c3,c4]
  ·exact ⟨none,0,0,by rw [HF.out,HF.out,HF.out,HF.out,HF.out,HST.out];rfl,by rw [HQ.out];exact By.nil_ _,fun g o hA hN=>absurd hN (by omega),zal HE.out (Nat.le_refl _) _ _ _ _ _⟩
theorem zoH (A:Option Addr) (cp:Nat) (l:List Nat) (w:World) (hb:By w A 128 cp l) (hzb:zaO l=false) :
 Calls Tryz.prog 169 #[.slice A 128 cp] w fun r w'=>∃A' N c',r=.returned (.tuple #[.int .u8 (stN l),.agg #[.int .i64 (ofl l 0),.int .i64 (ofl l 1),.int .i64 (ofl l 2),.int .i64 (ofl l 3),.int .i64 (ofl l 4)],.slice A' N c'])∧By w' A' N c' (obl l)∧(∀g o,A'=some ⟨g,o,none⟩→0<N→w.heap.size≤g)∧Ext w w':=by
 have hz:=heap_alloc_new w (.cells Zk.c 44)
 have hE:=(Ext.refl w).alloc (.cells Zk.c 44)
 have hlen:l.length=128:=Bs.len hb
 have hcap:128≤cp:=Bs.cap hb
 have hmost:=Bs.most hb
 have hszB:szB l=true:=zcY.2 (by omega)
 have HSZ:=qj hszB
 have HLen:Hid (l.length=128):=qj hlen
 obtain ⟨g,o,x0,hA,hgB,h0,hx0,c0⟩:=hb.rd.at_ (k:=0) (by omega)
 subst hA
 obtain ⟨g',o',x1,hA,_,h1,hx1,c1⟩:=hb.rd.at_ (k:=1) (by omega)
 injection hA with hA;injection hA with hA1 hA2;subst hA1;subst hA2
 have hbn:=ziE h0 h1
 have hc0:=Ext.cell hE c0
 have hc1:=Ext.cell hE c1
 rw [Nat.add_zero] at hc0
 have HSub:Hid (By w (some ⟨g,o+2,none⟩) 15 (cp-2) (zad l)):=qj (hb.sub 2 15 (cp-2) (by omega) (by omega) (by omega))
 have HB:=qj hb
 have HE:=qj hE
 have HZ:=qj hz
 have HZB:=qj hzb
 have HBN:=qj hbn
 clear hb hE hz hzb hlen hszB h0 h1 c0 c1 hbn hgB
 go_enter Tryz.func169,Tryz.ntmps169
 go_wp2_with fail
 refine (zaW _ _).mono ?_
 rw [show roomN 2=88 from rfl]
 rintro r w1 ⟨rfl,rfl⟩
 go_wp2_with fail
 refine (zfR _ 128 cp l _ (HB.out.ext HE.out)).mono ?_
 rw [HZB.out]
 rintro r w1 ⟨rfl,rfl⟩
 go_wp2_with fail
 generalize (w.alloc (.cells Zk.c 44))=W at *
 have e0:IntKind.i64.wrap (x0:Int)=(x0:Int):=IntWalk.i64_in _ (by omega)
 have e1:IntKind.i64.wrap (x1:Int)=(x1:Int):=IntWalk.i64_in _ (by omega)
 have e2:IntKind.i64.wrap (256 * (x1:Int))=256 * (x1:Int):=IntWalk.i64_in _ (by omega)
 have e3:IntKind.i64.wrap ((x0:Int)+256 * (x1:Int))=((x0+256 * x1:Nat):Int):=by rw [IntWalk.i64_in _ (by omega)];omega
 go_region_held3 (fun w'=>w'.cell? (aD g o)=some (.int .u8 x0)∧w'.cell? (aD g (o+1))=some (.int .u8 x1))
  (first | with_reducible exact ⟨hc0,hc1⟩ | go_keep)
  (first | (go_at_call 0;fail))
 clear e0 e1 e2 e3 hc0 hc1
 rw [show (x0:Int)+256 * (x1:Int)=((bodyN l:Nat):Int) from by rw [HBN.out];omega]
 have hx:Ext W W.drew:=(Ext.refl W).drew
 have HE:=qj (HE.out.trans hx)
 have HZ:=qj ((hx.block _ (Array.getElem?_eq_some_iff.1 HZ.out).1).trans HZ.out)
 generalize W.drew=W1 at *
 clear hx
 have hN16:bodyN l<65536:=by rw [HBN.out];omega
 generalize hbN:bodyN l=N at *
 have HBqN:=qj hbN
 clear hbN HBN
 have hs3:∀w,(Instr.slice 45 (.slice (some ⟨g,o,none⟩) 128 cp) (some (.int .i64 2)) (some (.int .i64 17)) none).run Tryz.prog w=.ok (.slice (some ⟨g,o+2,none⟩) 15 (cp-2)) w:=zcX g o 128 cp 2 17 (by omega) (by omega) (by omega)
 go_wp2_with fail
 refine (zhf _ 15 (cp-2) (zad l) _ (HSub.out.ext HE.out) (by omega)).mono ?_
 by_cases hv:PV (zad l)=true
 ·rw [zfD hv]
  rintro r w2 ⟨rfl,hx2⟩
  have hx:=hx2.alloc (.cells #[.int .i64 (pf (zad l) 0),.int .i64 (pf (zad l) 1),.int .i64 (pf (zad l) 2),.int .i64 (pf (zad l) 3),.int .i64 (pf (zad l) 4)] 44)
  have hr2:=heap_alloc_new w2 (.cells #[.int .i64 (pf (zad l) 0),.int .i64 (pf (zad l) 1),.int .i64 (pf (zad l) 2),.int .i64 (pf (zad l) 3),.int .i64 (pf (zad l) 4)] 44)
  have HZ1:Hid (W1.heap[w.heap.size]?=_):=HZ
  have hlt1:=Ext.size (show Ext W1 w2 from hx2)
  have hz1:=(hx.block _ (Array.getElem?_eq_some_iff.1 HZ.out).1).trans HZ.out
  have HE:=qj (HE.out.trans hx)
  have HZ:=qj hz1
  have HR2:=qj hr2
  obtain ⟨⟨c0,c1,c2,c3,c4⟩,f0,f1,f2,f3,f4⟩:=zac hz1
  clear hx hz1 hr2 hs3
  by_cases hle:N≤88
  ·have hNc:(17:Int)+(N:Int)=((17+N:Nat):Int):=by omega
   have hs4:∀w,(Instr.slice 45 (.slice (some ⟨g,o,none⟩) 128 cp) (some (.int .i64 17)) (some (.int .i64 (17+(N:Int)))) none).run Tryz.prog w=.ok (.slice (some ⟨g,o+17,none⟩) N (cp-17)) w:=fun w=>by
    have h:=zcX g o 128 cp 17 (17+N) (by omega) (by omega) (by omega) w
    rw [show 17+N-17=N from by omega] at h
    rw [hNc]
    exact h
   have ho:okB l=true:=zgB hv (by rw [HLen.out,HBqN.out];omega)
   have hre:reE l=0:=by
    unfold reE
    rw [zap ho,zap ho,zap ho,zap ho,zap ho,zce ho,zbk (zbY ho).2,HBqN.out,HLen.out]
    exact zbD (by decide) (zjt hv) (by show N≤88;exact hle)
   have hgood:=zlJ HSZ.out HB.out.rd.lt hre
   have HRE:Hid (sealE (pf (zad l) 0) (pf (zad l) 1) (pf (zad l) 2) (pf (zad l) 3) (pf (zad l) 4) N 2=0):=qj (by
    have:=hre
    unfold reE at this
    rw [zap ho,zap ho,zap ho,zap ho,zap ho,zce ho,zbk (zbY ho).2,HBqN.out,HLen.out] at this
    exact this)
   have HRL:Hid (sealL (pf (zad l) 0) (pf (zad l) 1) (pf (zad l) 2) (pf (zad l) 3) (pf (zad l) 4) (zaH l) 2=reL l):=qj (by
    unfold reL
    rw [zap ho,zap ho,zap ho,zap ho,zap ho,zce ho,HLen.out]
    rfl)
   have HBd:Hid (By w (some ⟨g,o+17,none⟩) N (cp-17) (zaH l)):=qj (by
    have:=HB.out.sub 17 N (cp-17) (by omega) (by omega) (by omega)
    unfold zaH
    rw [HBqN.out]
    exact this)
   have HGD:=qj hgood
   clear hNc ho hre hgood hv
   go_wp2_with fail
   refine (zaW _ _).mono ?_
   rw [show roomN 2=88 from rfl]
   rintro r w3 ⟨rfl,rfl⟩
   go_wp2_with fail
   refine (zcy _ (zaH l) N (cp-17) _ (HBd.out.ext HE.out) (by omega)).mono ?_
   rintro r w4 ⟨A4,c4',rfl,hb4,hx,hown⟩
   have hge:∀g o,A4=some ⟨g,o,none⟩→0<N→w.heap.size+1≤g:=by
    intro g o hA hN
    obtain ⟨g2,cap,hv2⟩:=Go.Joins.ownsRow_form hown hN
    injection hv2 with hv2 _ _
    rw [hA] at hv2
    injection hv2 with hv2
    injection hv2 with hv2 _
    subst hv2
    have h1:=(hown.lt g (by rw [hA];rfl)).1
    have h2:=(Array.getElem?_eq_some_iff.1 HZ.out).1
    omega
   have HGe:=qj hge
   have HB4:=qj hb4
   have hz1:=(hx.block _ (Array.getElem?_eq_some_iff.1 HZ.out).1).trans HZ.out
   have hr1:=(hx.block _ (Array.getElem?_eq_some_iff.1 HR2.out).1).trans HR2.out
   have HE:=qj (HE.out.trans hx)
   have HZ:=qj hz1
   have HR2:=qj hr1
   clear hx hown hge hb4 c0 c1 c2 c3 c4 f0 f1 f2 f3 f4 hs4
   obtain ⟨⟨d0,d1,d2,d3,d4⟩,_⟩:=zac hr1
   clear hz1 hr1
   go_wp2_with fail
   refine (ziR _ _ _ _ _ _ _ _ _ (zaH l) _ HB4.out).mono ?_
   rw [HRE.out,HRL.out]
   rintro r w5 ⟨A5,c5,rfl,hb5,hx⟩
   have HB5:=qj hb5
   have HB4:=qj (HB4.out.ext hx)
   have hz1:=(hx.block _ (Array.getElem?_eq_some_iff.1 HZ.out).1).trans HZ.out
   have hr1:=(hx.block _ (Array.getElem?_eq_some_iff.1 HR2.out).1).trans HR2.out
   have HE:=qj (HE.out.trans hx)
   have HZ:=qj hz1
   have HR2:=qj hr1
   clear hx hb5 d0 d1 d2 d3 d4 hz1 hr1
   generalize reL l=RL at *
   go_wp2_with fail
   refine (zns _ _ RL l _ _ _ _ _ HB5.out (HB.out.ext HE.out)).mono ?_
   by_cases hg2:RL=l
   ·rw [decide_eq_true hg2]
    have hgd:zat l=true:=by rw [HGD.out,decide_eq_true hg2]
    have HF:Hid (∀k,pf (zad l) k=ofl l k):=qj fun k=>(zjZ hgd k).symm
    have HQ:Hid (zaH l=obl l):=qj (zjG hgd).symm
    have HST:=qj (zdv hgd)
    clear hgd hg2
    rintro r w6 ⟨rfl,hx⟩
    have HB4:=qj (HB4.out.ext hx)
    have hz1:=(hx.block _ (Array.getElem?_eq_some_iff.1 HZ.out).1).trans HZ.out
    have hr1:=(hx.block _ (Array.getElem?_eq_some_iff.1 HR2.out).1).trans HR2.out
    have HE:=qj (HE.out.trans hx)
    have HZ:=qj hz1
    have HR2:=qj hr1
    obtain ⟨⟨c0,c1,c2,c3,c4⟩,f0,f1,f2,f3,f4⟩:=zac hz1
    obtain ⟨⟨d0,d1,d2,d3,d4⟩,_⟩:=zac hr1
    clear hx hz1 hr1
    go_wp2_with fail
    generalize hh2:w2.heap.size=h2 at *
    generalize hh0:w.heap.size=h0 at *
    have HN0:=qj hh0
    have hne:h0≠h2:=by have:=(Array.getElem?_eq_some_iff.1 HZ1.out).1;omega
    clear hh0 hh2
    go_region_held3 (fun w'=>(CW.mk w' h2 [.int .i64 (pf (zad l) 0),.int .i64 (pf (zad l) 1),.int .i64 (pf (zad l) 2),.int .i64 (pf (zad l) 3),.int .i64 (pf (zad l) 4)]:Prop))
     (first | with_reducible exact ⟨d0,d1,d2,d3,d4⟩ | with_reducible exact ⟨zaj hne d0 _ _ _ _ _,zaj hne d1 _ _ _ _ _,zaj hne d2 _ _ _ _ _,zaj hne d3 _ _ _ _ _,zaj hne d4 _ _ _ _ _⟩ | go_keep)
     (first | (go_at_call 0;fail))
    have hrow:=zaD HZ.out (.int .i64 (pf (zad l) 0)) (.int .i64 (pf (zad l) 1)) (.int .i64 (pf (zad l) 2)) (.int .i64 (pf (zad l) 3)) (.int .i64 (pf (zad l) 4))
    have hx:=zal HE.out (g:=h0) (Nat.le_of_eq HN0.out) (.int .i64 (pf (zad l) 0)) (.int .i64 (pf (zad l) 1)) (.int .i64 (pf (zad l) 2)) (.int .i64 (pf (zad l) 3)) (.int .i64 (pf (zad l) 4))
    have hby:=HB4.out.five (h0:=h0) (fun g o hA hN=>by have:=HGe.out g o hA hN;omega) (.int .i64 (pf (zad l) 0)) (.int .i64 (pf (zad l) 1)) (.int .i64 (pf (zad l) 2)) (.int .i64 (pf (zad l) 3)) (.int .i64 (pf (zad l) 4))
    clear c0 c1 c2 c3 c4 f0 f1 f2 f3 f4 d0 d1 d2 d3 d4
    generalize ((SW.mk w6 h0 [.int .i64 (pf (zad l) 0),.int .i64 (pf (zad l) 1),.int .i64 (pf (zad l) 2),.int .i64 (pf (zad l) 3),.int .i64 (pf (zad l) 4)]:World))=V at hrow hx hby ⊢
    obtain ⟨⟨e0,e1,e2,e3,e4⟩,_⟩:=zac hrow
    have HB4:=qj (hby.ext ((Ext.refl V).drew))
    have HX:=qj hx.drew
    clear hrow hx hby
    go_wp2_with fail
    refine bodyPost_ret (v:=.tuple #[.int .u8 1,.agg #[.int .i64 (pf (zad l) 0),.int .i64 (pf (zad l) 1),.int .i64 (pf (zad l) 2),.int .i64 (pf (zad l) 3),.int .i64 (pf (zad l) 4)],.slice A4 N c4']) ?_ rfl ?_
    ·simp [results,Tryz.results169,go_sem,e0,e1,e2,e3,e4]
    ·exact ⟨A4,N,c4',by rw [HF.out,HF.out,HF.out,HF.out,HF.out,HST.out];rfl,by rw [←HQ.out];exact HB4.out,fun g o hA hN=>by have h1:=HGe.out g o hA hN;have h2:=HN0.out;omega,HX.out⟩
   ·rw [decide_eq_false hg2]
    have hgd:zat l=false:=by rw [HGD.out,decide_eq_false hg2]
    have HF:Hid (∀k,ofl l k=0):=qj (zaY hgd)
    have HQ:Hid (obl l=[]):=qj (zcs hgd)
    have HST:=qj (zcW HZB.out hgd)
    clear hgd hg2
    rintro r w6 ⟨rfl,hx⟩
    have hz1:=(hx.block _ (Array.getElem?_eq_some_iff.1 HZ.out).1).trans HZ.out
    have HE:=qj (HE.out.trans hx)
    obtain ⟨⟨c0,c1,c2,c3,c4⟩,f0,f1,f2,f3,f4⟩:=zac hz1
    clear hx hz1
    go_wp2_with fail
    refine bodyPost_ret (v:=.tuple #[.int .u8 2,.agg Zk.c,.slice none 0 0]) ?_ rfl ?_
    ·simp [results,Tryz.results169,go_sem,c0,c1,c2,c3,c4]
    ·exact ⟨none,0,0,by rw [HF.out,HF.out,HF.out,HF.out,HF.out,HST.out];rfl,by rw [HQ.out];exact By.nil_ _,fun g o hA hN=>absurd hN (by omega),zal HE.out (Nat.le_refl _) _ _ _ _ _⟩
  ·have hgd:zat l=false:=by
    by_cases hg:zat l=true
    ·have h3:=(zbA hg).2.2.1
     rw [HLen.out,HBqN.out] at h3
     exact absurd (show N≤88 from h3) hle
    ·simpa using hg
   have HF:Hid (∀k,ofl l k=0):=qj (zaY hgd)
   have HQ:Hid (obl l=[]):=qj (zcs hgd)
   have HST:=qj (zcW HZB.out hgd)
   clear hgd hv
   go_wp2_with fail
   refine (zaW _ _).mono ?_
   rw [show roomN 2=88 from rfl]
   rintro r w3 ⟨rfl,rfl⟩
   go_wp2_with fail
   refine bodyPost_ret (v:=.tuple #[.int .u8 2,.agg Zk.c,.slice none 0 0]) ?_ rfl ?_
   ·simp [results,Tryz.results169,go_sem,c0,c1,c2,c3,c4]
   ·exact ⟨none,0,0,by rw [HF.out,HF.out,HF.out,HF.out,HF.out,HST.out];rfl,by rw [HQ.out];exact By.nil_ _,fun g o hA hN=>absurd hN (by omega),zal HE.out (Nat.le_refl _) _ _ _ _ _⟩
 ·have hv':PV (zad l)=false:=by simpa using hv
  have hgd:zat l=false:=by
   by_cases hg:zat l=true
   ·rw [(zbA hg).2.1] at hv';cases hv'
   ·simpa using hg
  have HF:Hid (∀k,ofl l k=0):=qj (zaY hgd)
  have HQ:Hid (obl l=[]):=qj (zcs hgd)
  have HST:=qj (zcW HZB.out hgd)
  rw [zgt hv',zaG hv',zaG hv',zaG hv',zaG hv',zaG hv']
  rintro r w2 ⟨rfl,hx2⟩
  have hx:=hx2.alloc (.cells Zk.c 44)
  have hz1:=(hx.block _ (Array.getElem?_eq_some_iff.1 HZ.out).1).trans HZ.out
  have HE:=qj (HE.out.trans hx)
  obtain ⟨⟨c0,c1,c2,c3,c4⟩,f0,f1,f2,f3,f4⟩:=zac hz1
  clear hx hz1 hs3 hv hv' hgd
  go_wp2_with fail
  refine bodyPost_ret (v:=.tuple #[.int .u8 2,.agg Zk.c,.slice none 0 0]) ?_ rfl ?_
  ·simp [results,Tryz.results169,go_sem,c0,c1,c2,c3,c4]
  ·exact ⟨none,0,0,by rw [HF.out,HF.out,HF.out,HF.out,HF.out,HST.out];rfl,by rw [HQ.out];exact By.nil_ _,fun g o hA hN=>absurd hN (by omega),zal HE.out (Nat.le_refl _) _ _ _ _ _⟩
theorem zob (A:Option Addr) (n cp:Nat) (l:List Nat) (w:World) (hb:By w A n cp l) :
 Calls Tryz.prog 169 #[.slice A n cp] w fun r w'=>∃A' N c',r=.returned (.tuple #[.int .u8 (stN l),.agg #[.int .i64 (ofl l 0),.int .i64 (ofl l 1),.int .i64 (ofl l 2),.int .i64 (ofl l 3),.int .i64 (ofl l 4)],.slice A' N c'])∧By w' A' N c' (obl l)∧(∀g o,A'=some ⟨g,o,none⟩→0<N→w.heap.size≤g)∧Ext w w':=by
 by_cases h:szB l=false∨zaO l=true
 ·have hg:zat l=false:=by rcases h with h | h;exact zfo h;exact zko h
  refine (zkr A n cp l w hb h).mono ?_
  rintro r w' ⟨rfl,hx⟩
  exact ⟨none,0,0,by rw [zaY hg,zaY hg,zaY hg,zaY hg,zaY hg];rfl,by rw [zcs hg];exact By.nil_ _,fun g o hA hN=>absurd hN (by omega),hx⟩
 ·have hs:szB l=true:=by
   by_cases hs:szB l=true
   ·exact hs
   ·exact absurd (.inl (by simpa using hs)) h
  have hz:zaO l=false:=by
   by_cases hz:zaO l=true
   ·exact absurd (.inr hz) h
   ·simpa using hz
  have hsz:=zcY.1 hs
  rw [Bs.len hb] at hsz
  rcases hsz with rfl | rfl
  ·exact zrL A cp l w hb hz
  ·exact zoH A cp l w hb hz
theorem zoF (A:Option Addr) (n cp:Nat) (l:List Nat) (x y z:Int) (w:World) (hb:By w A n cp l) :
 Calls Tryz.prog 135 #[.slice A n cp,x,y,z] w fun r w'=>∃A' N c',r=.returned (.tuple #[.int .u8 (stM l x y z),.agg #[.int .i64 (mfl l x y z 0),.int .i64 (mfl l x y z 1),.int .i64 (mfl l x y z 2),.int .i64 (mfl l x y z 3),.int .i64 (mfl l x y z 4)],.slice A' N c'])∧By w' A' N c' (mbl l x y z)∧(∀g o,A'=some ⟨g,o,none⟩→0<N→w.heap.size≤g)∧Ext w w':=by
 have hz:=heap_alloc_new w (.cells Zk.c 44)
 have hE:=(Ext.refl w).alloc (.cells Zk.c 44)
 have HB:=qj hb
 have HE:=qj hE
 have HZ:=qj hz
 clear hb hE hz
 go_enter Tryz.func135,Tryz.ntmps135
 go_wp2_with fail
 refine (zob A n cp l _ (HB.out.ext HE.out)).mono ?_
 rintro r w1 ⟨A1,N,c',rfl,hb1,hge,hx⟩
 have hxa:=hx.alloc (.cells #[.int .i64 (ofl l 0),.int .i64 (ofl l 1),.int .i64 (ofl l 2),.int .i64 (ofl l 3),.int .i64 (ofl l 4)] 44)
 have hz1:=(hxa.block _ (Array.getElem?_eq_some_iff.1 HZ.out).1).trans HZ.out
 have hlt1:=(Array.getElem?_eq_some_iff.1 HZ.out).1
 have hsz1:=Ext.size hx
 have hr1:=heap_alloc_new w1 (.cells #[.int .i64 (ofl l 0),.int .i64 (ofl l 1),.int .i64 (ofl l 2),.int .i64 (ofl l 3),.int .i64 (ofl l 4)] 44)
 have HNE:Hid (∀g o,A1=some ⟨g,o,none⟩→0<N→w.heap.size≠g):=qj fun g o hA hN=>by
  have h1:=hge g o hA hN
  simp at h1
  omega
 have HGE:Hid (∀g o,A1=some ⟨g,o,none⟩→0<N→w.heap.size≤g):=qj fun g o hA hN=>Nat.le_trans (by simp) (hge g o hA hN)
 have HB1:=qj (hb1.ext ((Ext.refl w1).alloc (.cells #[.int .i64 (ofl l 0),.int .i64 (ofl l 1),.int .i64 (ofl l 2),.int .i64 (ofl l 3),.int .i64 (ofl l 4)] 44)))
 have HE:=qj (HE.out.trans hxa)
 have HZ:=qj hz1
 have hne:w.heap.size≠w1.heap.size:=by omega
 obtain ⟨⟨c0,c1,c2,c3,c4⟩,f0,f1,f2,f3,f4⟩:=zac hz1
 obtain ⟨⟨d0,d1,d2,d3,d4⟩,_⟩:=zac hr1
 clear hx hxa hz1 hr1 hb1 hge hlt1 hsz1
 by_cases hg:zat l=true
 ·have HST:Hid (stN l=1):=qj (zdv hg)
  rw [HST.out]
  by_cases hm:zdn l x y z=true
  ·obtain ⟨e1,e2,e3⟩:=zla hg hm
   have HR:Hid (stM l x y z=1∧(∀k,mfl l x y z k=ofl l k)∧mbl l x y z=obl l):=qj ⟨e1,e2,e3⟩
   obtain ⟨rfl,rfl,rfl⟩:=(zes hg).1 hm
   clear e1 e2 e3 hg hm
   go_wp2_with fail
   generalize hW:(w1.alloc (.cells #[.int .i64 (ofl l 0),.int .i64 (ofl l 1),.int .i64 (ofl l 2),.int .i64 (ofl l 3),.int .i64 (ofl l 4)] 44))=W at *
   generalize hh2:w1.heap.size=h2 at *
   generalize hh0:w.heap.size=h0 at *
   have HN0:=qj hh0
   clear hh0 hh2 hW
   go_region_held3 (fun w'=>(CW.mk w' h2 [.int .i64 (ofl l 0),.int .i64 (ofl l 1),.int .i64 (ofl l 2),.int .i64 (ofl l 3),.int .i64 (ofl l 4)]:Prop))
    (first | with_reducible exact ⟨d0,d1,d2,d3,d4⟩ | with_reducible exact ⟨zaj hne d0 _ _ _ _ _,zaj hne d1 _ _ _ _ _,zaj hne d2 _ _ _ _ _,zaj hne d3 _ _ _ _ _,zaj hne d4 _ _ _ _ _⟩ | go_keep)
    (first | (go_at_call 0;fail))
   have hrow:=zaD HZ.out (.int .i64 (ofl l 0)) (.int .i64 (ofl l 1)) (.int .i64 (ofl l 2)) (.int .i64 (ofl l 3)) (.int .i64 (ofl l 4))
   have hx:=zal HE.out (g:=h0) (Nat.le_of_eq HN0.out) (.int .i64 (ofl l 0)) (.int .i64 (ofl l 1)) (.int .i64 (ofl l 2)) (.int .i64 (ofl l 3)) (.int .i64 (ofl l 4))
   have hby:=HB1.out.five HNE.out (.int .i64 (ofl l 0)) (.int .i64 (ofl l 1)) (.int .i64 (ofl l 2)) (.int .i64 (ofl l 3)) (.int .i64 (ofl l 4))
   clear c0 c1 c2 c3 c4 f0 f1 f2 f3 f4 d0 d1 d2 d3 d4
   generalize ((SW.mk W h0 [.int .i64 (ofl l 0),.int .i64 (ofl l 1),.int .i64 (ofl l 2),.int .i64 (ofl l 3),.int .i64 (ofl l 4)]:World))=V at hrow hx hby ⊢
   obtain ⟨⟨e0,e1,e2,e3,e4⟩,_⟩:=zac hrow
   have HB1:=qj (hby.ext ((Ext.refl V).drew))
   have HX:=qj hx.drew
   clear hrow hx hby
   go_wp2_with fail
   refine bodyPost_ret (v:=.tuple #[.int .u8 1,.agg #[.int .i64 (ofl l 0),.int .i64 (ofl l 1),.int .i64 (ofl l 2),.int .i64 (ofl l 3),.int .i64 (ofl l 4)],.slice A1 N c']) ?_ rfl ?_
   ·simp [results,Tryz.results135,go_sem,e0,e1,e2,e3,e4]
   ·exact ⟨A1,N,c',by rw [HR.out.1,HR.out.2.1,HR.out.2.1,HR.out.2.1,HR.out.2.1,HR.out.2.1];rfl,by rw [HR.out.2.2];exact HB1.out,by rw [HN0.out];exact HGE.out,HX.out⟩
  ·have hm':zdn l x y z=false:=by simpa using hm
   obtain ⟨e1,e2,e3⟩:=znz hg hm'
   have HR:Hid (stM l x y z=2∧(∀k,mfl l x y z k=0)∧mbl l x y z=[]):=qj ⟨e1,e2,e3⟩
   rw [zes hg] at hm
   clear e1 e2 e3 hm'
   have hx0:=qj hm
   by_cases h0':(ofl l 0:Int)=x
   ·by_cases h1:(ofl l 1:Int)=y
    ·have h2':¬(ofl l 2:Int)=z:=fun h=>hm ⟨h0',h1,h⟩
     subst h0';subst h1
     have g2:((ofl l 2:Int) != z)=true:=by simpa using h2'
     clear hm hg h2' hx0
     go_wp2_with fail
     refine bodyPost_ret (v:=.tuple #[.int .u8 2,.agg Zk.c,.slice none 0 0]) ?_ rfl ?_
     ·simp [results,Tryz.results135,go_sem,c0,c1,c2,c3,c4]
     ·exact ⟨none,0,0,by rw [HR.out.1,HR.out.2.1,HR.out.2.1,HR.out.2.1,HR.out.2.1,HR.out.2.1];rfl,by rw [HR.out.2.2];exact By.nil_ _,fun g o hA hN=>absurd hN (by omega),zal HE.out (Nat.le_refl _) _ _ _ _ _⟩
    ·subst h0'
     have g1:((ofl l 1:Int) != y)=true:=by simpa using h1
     clear hm hg h1 hx0
     go_wp2_with fail
     refine bodyPost_ret (v:=.tuple #[.int .u8 2,.agg Zk.c,.slice none 0 0]) ?_ rfl ?_
     ·simp [results,Tryz.results135,go_sem,c0,c1,c2,c3,c4]
     ·exact ⟨none,0,0,by rw [HR.out.1,HR.out.2.1,HR.out.2.1,HR.out.2.1,HR.out.2.1,HR.out.2.1];rfl,by rw [HR.out.2.2];exact By.nil_ _,fun g o hA hN=>absurd hN (by omega),zal HE.out (Nat.le_refl _) _ _ _ _ _⟩
   ·have g0:((ofl l 0:Int) != x)=true:=by simpa using h0'
    clear hm hg h0' hx0
    go_wp2_with fail
    refine bodyPost_ret (v:=.tuple #[.int .u8 2,.agg Zk.c,.slice none 0 0]) ?_ rfl ?_
    ·simp [results,Tryz.results135,go_sem,c0,c1,c2,c3,c4]
    ·exact ⟨none,0,0,by rw [HR.out.1,HR.out.2.1,HR.out.2.1,HR.out.2.1,HR.out.2.1,HR.out.2.1];rfl,by rw [HR.out.2.2];exact By.nil_ _,fun g o hA hN=>absurd hN (by omega),zal HE.out (Nat.le_refl _) _ _ _ _ _⟩
 ·have hg':zat l=false:=by simpa using hg
  obtain ⟨e1,e2,e3⟩:=zeh (x:=x) (y:=y) (z:=z) hg'
  have HR:Hid (stM l x y z=stN l∧(∀k,mfl l x y z k=ofl l k)∧mbl l x y z=obl l):=qj ⟨e1,e2,e3⟩
  have hst:¬stN l=1:=fun h=>hg (znb.1 h)
  have g0:((stN l:Int) == 1)=false:=by simp;omega
  clear e1 e2 e3 hg hg' hst
  generalize stN l=st at *
  go_wp2_with fail
  generalize hW:(w1.alloc (.cells #[.int .i64 (ofl l 0),.int .i64 (ofl l 1),.int .i64 (ofl l 2),.int .i64 (ofl l 3),.int .i64 (ofl l 4)] 44))=W at *
  generalize hh2:w1.heap.size=h2 at *
  generalize hh0:w.heap.size=h0 at *
  have HN0:=qj hh0
  clear hh0 hh2 hW
  go_region_held3 (fun w'=>(CW.mk w' h2 [.int .i64 (ofl l 0),.int .i64 (ofl l 1),.int .i64 (ofl l 2),.int .i64 (ofl l 3),.int .i64 (ofl l 4)]:Prop))
   (first | with_reducible exact ⟨d0,d1,d2,d3,d4⟩ | with_reducible exact ⟨zaj hne d0 _ _ _ _ _,zaj hne d1 _ _ _ _ _,zaj hne d2 _ _ _ _ _,zaj hne d3 _ _ _ _ _,zaj hne d4 _ _ _ _ _⟩ | go_keep)
   (first | (go_at_call 0;fail))
  have hrow:=zaD HZ.out (.int .i64 (ofl l 0)) (.int .i64 (ofl l 1)) (.int .i64 (ofl l 2)) (.int .i64 (ofl l 3)) (.int .i64 (ofl l 4))
  have hx:=zal HE.out (g:=h0) (Nat.le_of_eq HN0.out) (.int .i64 (ofl l 0)) (.int .i64 (ofl l 1)) (.int .i64 (ofl l 2)) (.int .i64 (ofl l 3)) (.int .i64 (ofl l 4))
  have hby:=HB1.out.five HNE.out (.int .i64 (ofl l 0)) (.int .i64 (ofl l 1)) (.int .i64 (ofl l 2)) (.int .i64 (ofl l 3)) (.int .i64 (ofl l 4))
  clear c0 c1 c2 c3 c4 f0 f1 f2 f3 f4 d0 d1 d2 d3 d4
  generalize ((SW.mk W h0 [.int .i64 (ofl l 0),.int .i64 (ofl l 1),.int .i64 (ofl l 2),.int .i64 (ofl l 3),.int .i64 (ofl l 4)]:World))=V at hrow hx hby ⊢
  obtain ⟨⟨e0,e1,e2,e3,e4⟩,_⟩:=zac hrow
  have HB1:=qj (hby.ext ((Ext.refl V).drew))
  have HX:=qj hx.drew
  clear hrow hx hby
  go_wp2_with fail
  refine bodyPost_ret (v:=.tuple #[.int .u8 st,.agg #[.int .i64 (ofl l 0),.int .i64 (ofl l 1),.int .i64 (ofl l 2),.int .i64 (ofl l 3),.int .i64 (ofl l 4)],.slice A1 N c']) ?_ rfl ?_
  ·simp [results,Tryz.results135,go_sem,e0,e1,e2,e3,e4]
  ·exact ⟨A1,N,c',by rw [HR.out.1,HR.out.2.1,HR.out.2.1,HR.out.2.1,HR.out.2.1,HR.out.2.1],by rw [HR.out.2.2];exact HB1.out,by rw [HN0.out];exact HGE.out,HX.out⟩
end Go.Proofs.YtdbpdhlecgoclaaGreatDoor
