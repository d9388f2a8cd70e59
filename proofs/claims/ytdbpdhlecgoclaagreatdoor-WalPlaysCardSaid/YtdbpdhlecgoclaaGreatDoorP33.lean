/-
  The contract of the document's log's write: a frame is written,and flushed.
-/
import Derived.Test.YtdbpdhlecgoclaaGreatDoorP00
import Derived.Test.YtdbpdhlecgoclaaGreatDoorP01
import Derived.Test.YtdbpdhlecgoclaaGreatDoorP02
import Derived.Test.YtdbpdhlecgoclaaGreatDoorP05
import Derived.Test.YtdbpdhlecgoclaaGreatDoorP06
import Derived.Test.YtdbpdhlecgoclaaGreatDoorP07
import Derived.Test.YtdbpdhlecgoclaaGreatDoorP08
import Derived.Test.YtdbpdhlecgoclaaGreatDoorP09
import Derived.Test.YtdbpdhlecgoclaaGreatDoorP10
import Derived.Test.YtdbpdhlecgoclaaGreatDoorP16
import Derived.Test.YtdbpdhlecgoclaaGreatDoorP18
import Derived.Test.YtdbpdhlecgoclaaGreatDoorP19
import Derived.Test.YtdbpdhlecgoclaaGreatDoorP24
import Derived.Test.YtdbpdhlecgoclaaGreatDoorP25
import Derived.Test.YtdbpdhlecgoclaaGreatDoorP28
import Derived.Test.YtdbpdhlecgoclaaGreatDoorP29
import Derived.Test.YtdbpdhlecgoclaaGreatDoorP30
import Derived.Test.YtdbpdhlecgoclaaGreatDoorP32
import Derived.Deep.RegionHeld3
import Derived.Deep.DeepCutAuto
import Derived.RangeFuncNested
import Derived.RangeFuncBound
import Derived.RangeFuncCalls
import Derived.RangeFuncLeaves
import Derived.Shelf.Abstract
import Derived.Shelf.RegionOpen
import Derived.WalkKit
import Derived.OwnWalkIn
import Derived.TacticsInMore
import Derived.LoopNIn
import Derived.LoopIn
import Derived.OrdersIn
import Derived.TacticsIn
import Derived.Laws.IdiomArrays
import Derived.Deep.AppendLies
import Derived.Maps.AppendAt
import Derived.Maps.OwnSet
import Derived.Maps.Keyed
import Derived.LoopN
namespace Go.Proofs.YtdbpdhlecgoclaaGreatDoor
set_option maxRecDepth 100000
set_option maxHeartbeats 6400000
open Go Go.RowKit
theorem zjc {X:Int × DM} {S:Int} {L:List Nat} {n:Nat}:∀{W:Nat},n≤W→(wrsE X S L n).1≠0→wrsE X S L W=wrsE X S L n
 | 0,h,_=>by
  obtain rfl:n=0:=by omega
  rfl
 | W+1,h,he=>by
  by_cases hn:n=W+1
  ·rw [hn]
  ·have ih:=zjc (X:=X) (S:=S) (L:=L) (n:=n) (W:=W) (by omega) he
   show unE (wrsE X S L W) _=_
   rw [ih]
   exact if_neg he
theorem zgW {w:World} {y d:Nat} {r inc:Int} {s:Nat} {q:Nat→Nat} {m:DM} (h:RLogAt w y d r inc s) (hd:RD w d q m) (hy:q y=0) (rg pl i:Int) (W:Nat) (hW:wid rg=(W:Int)) (hW2:W=1∨W=2) (S:Nat) (hfs:zai rg pl=(S:Int)) (hsc:S≤300) (A:Option Addr) (n c:Nat) (l:List Nat) (hb:By w A n c l)
 (hse:sealE r rg pl i inc l.length (W:Int)=0) (hfew:m.waits.length+3≤1000000) :
 Calls Tryz.prog 41 #[aD y 0,rg,pl,i,.slice A n c] w fun e w' =>
  e=.returned (.int .i64 (wrfE (0,m) (S:Int) (sealL r rg pl i inc l (W:Int)) W).1)∧ROut d q w (wrfE (0,m) (S:Int) (sealL r rg pl i inc l (W:Int)) W).2 w':=by
 have hfl:(sealL r rg pl i inc l (W:Int)).length=64 * W:=by have:=(zbd hse).1;simpa using this
 have hsl:=fun (V:World) (hb:By V A n c l)=>zeD r rg pl i inc (W:Int) A n c l V hb
 generalize sealL r rg pl i inc l (W:Int)=Lf at *
 generalize sealE r rg pl i inc n (W:Int)=E0 at *
 obtain ⟨NL,hNL⟩:∃NL,64 * W=NL:=⟨_,rfl⟩
 rw [hfl,hNL] at hsl
 have HSL:=qj hsl
 have HWI:=qj (fun V=>zeH rg V)
 rw [hW] at HWI
 have hq1:((NL:Nat):Int).tdiv 64=(W:Int):=by rw [Int.tdiv_eq_ediv_of_nonneg (by omega)];omega
 have hq2:((NL:Nat):Int)/64=(W:Int):=by omega
 rw [hNL] at hfl
 have H:=qj h
 have HD:=qj hd
 have HY:=qj hy
 have HFL:=qj hfl
 have HFW:=qj hfew
 have HB0:=qj hb
 have HFI:=qj (fun V=>zhi rg pl V)
 rw [hfs] at HFI
 have HX0:=qj (Ext.refl w.drew)
 have hc:=h.cells
 have hS0:w.drew.cell? (aD y 1)=some (.int .i64 r)∧w.drew.cell? (aD y 2)=some (.int .i64 inc):=⟨hc.2.1,hc.2.2.1⟩
 have HS0:=qj hS0
 clear h hd hy hb hse hfew hfs hfl hsl hW hc
 go_enter Tryz.func41,Tryz.ntmps41
 go_wp2_with fail
 go_region_held3 (fun w'=>w'.cell? (aD y 1)=some (.int .i64 r)∧w'.cell? (aD y 2)=some (.int .i64 inc))
  (first | with_reducible exact hS0 | exact ⟨zaq HX0.out HS0.out.1,zaq HX0.out HS0.out.2⟩)
  (first
   | (go_at_call 84;((with_reducible refine (HWI.out _).mono ?_);rintro e w4 ⟨rfl,rfl⟩))
   | (go_at_call 45;((with_reducible refine (HSL.out _ (HB0.out.ext (Ext.refl w).drew)).mono ?_);rintro e w6 ⟨A6,c6,rfl,hb6,hx6,ho6⟩;have HX0:=qj hx6;have HB6:=qj hb6;have HO6:=qj ho6;clear hb6 hx6 ho6)))
 obtain ⟨gf,of,rfl,hgf,_⟩:=HB6.out.rd.2 (by rw [HFL.out];omega)
 have hgf2:w.heap.size≤gf:=(HO6.out.lt gf rfl).1
 have HX6:Hid (Ext w w6):=qj ((Ext.refl w).drew.trans HX0.out)
 have HR6:Hid (RQ w w6 d q q m):=qj ((RQ.start HD.out).ext HX6.out)
 have HF6:Hid (By w6 (some ⟨gf,of,none⟩) NL c6 Lf∧q gf=0):=qj ⟨HB6.out,zdk HD.out hgf2⟩
 have HH6:Hid (RLogAt w6 y d r inc s∧q y=0):=qj ⟨H.out.ext HX6.out,HY.out⟩
 have hcapf:=HB6.out.cap
 have hmostf:=HB6.out.most
 have hNLc:(NL:Int)≤(c6:Int):=by omega
 clear hgf hgf2 hS0 HS0 HX0 HB6 HO6 HSL HWI
 go_wp2_with fail
 go_loopw [13] (fun v wr=>∃(j:Nat) (q1:Nat→Nat),j≤W∧v=.int .i64 (j:Int)∧Hid ((wrsE (0,m) (S:Int) Lf j).1=0)∧Hid (RQ w wr d q q1 (wrsE (0,m) (S:Int) Lf j).2)∧Hid (By wr (some ⟨gf,of,none⟩) NL c6 Lf∧q1 gf=0)∧Hid (RLogAt wr y d r inc s∧q1 y=0)) (fun v _=>W-(intOf v).toNat)
 case atStart=>exact ⟨0,q,by omega,rfl,qj rfl,HR6,HF6,HH6⟩
 case round =>
  obtain ⟨j,q1,hj,rfl,HY0,HR,HF,HH⟩:=hrel
  by_cases hlq:j<W
  ·have hlq':(j:Int)<(W:Int):=by omega
   have hy1:wrsE (0,m) (S:Int) Lf (j+1)=unE (wrsE (0,m) (S:Int) Lf j) fun m=>m.write ((S:Int)+(j:Int)) ((Lf.drop (64 * j)).take 64):=rfl
   have hyw:=zdx (m:=m) (E:=0) (S:=(S:Int)) (L:=Lf) j
   have hys:(wrsE (0,m) (S:Int) Lf (j+1)).1≠0→wrsE (0,m) (S:Int) Lf W=wrsE (0,m) (S:Int) Lf (j+1):=zjc (by omega)
   rw [hy1] at hys
   generalize wrsE (0,m) (S:Int) Lf j=Y at *
   obtain ⟨Y0,mq⟩:=Y
   obtain rfl:Y0=0:=HY0.out
   have hy2:unE ((0:Int),mq) (fun m=>m.write ((S:Int)+(j:Int)) ((Lf.drop (64 * j)).take 64))=mq.write ((S:Int)+(j:Int)) ((Lf.drop (64 * j)).take 64):=if_pos rfl
   rw [hy2] at hy1 hys
   have hpc:=By.piece HF.out.1 (64 * j) (by omega)
   have hmq:mq.waits.length≤1000000:=by have:=HFW.out;dsimp only at hyw;omega
   have hS0:wr.drew.cell? (aD y 0)=some (.pointer (some ⟨d,0,none⟩)):=HH.out.1.cells.1
   have HYS:=qj hys
   have HY1:=qj hy1
   obtain ⟨lo,hlo⟩:∃lo:Nat,64 * j=lo:=⟨_,rfl⟩
   obtain ⟨hi2,hhi⟩:∃hi2:Nat,lo+64=hi2:=⟨_,rfl⟩
   have hcut:=zcX gf of NL c6 lo hi2 (by omega) (by omega) (by omega)
   rw [show hi2-lo=64 by omega] at hcut
   have e0:IntKind.i64.wrap (64 * (j:Int))=(lo:Int):=by rw [wrap_i64 (by omega) (by omega)];omega
   have e1:IntKind.i64.wrap ((lo:Int)+64)=(hi2:Int):=by rw [wrap_i64 (by omega) (by omega)];omega
   have e2:IntKind.i64.wrap (64 * (j:Int)+64)=(hi2:Int):=by rw [wrap_i64 (by omega) (by omega)];omega
   have h64:(lo:Int)≤(hi2:Int):=by omega
   have h128:(hi2:Int)≤(c6:Int):=by omega
   rw [hlo] at hpc HYS HY1
   have hwt:Calls Tryz.prog 50 #[aD d 0,.int .i64 (IntKind.i64.wrap ((S:Int)+(j:Int))),.slice (some ⟨gf,of+lo,none⟩) 64 (c6-lo)] wr.drew fun e w'=>e=.returned (.int .i64 (mq.write ((S:Int)+(j:Int)) ((Lf.drop lo).take 64)).1)∧ROut d q1 wr.drew (mq.write ((S:Int)+(j:Int)) ((Lf.drop lo).take 64)).2 w':=by
    rw [wrap_i64 (by omega) (by omega)]
    exact zeR (HR.out.rd.ext (Ext.refl wr).drew) _ _ _ _ _ (hpc.ext (Ext.refl wr).drew) (fun ⟨g,o,e,hg⟩=>by injection e with e;injection e with e1 _;subst e1;exact hg HF.out.2) hmq
   have HWT:=qj hwt
   clear hy1 hy2 hys hyw hpc hmq HY0 hlo hhi hwt
   generalize mq.write ((S:Int)+(j:Int)) ((Lf.drop lo).take 64)=R at *
   obtain ⟨E2,m2⟩:=R
   dsimp only at HWT
   go_wp2_with fail
   go_region_held3 (fun w'=>w'.cell? (aD y 0)=some (.pointer (some ⟨d,0,none⟩)))
    (first | with_reducible exact hS0 | exact hS5)
    (first
     | (go_at_call 85;((with_reducible refine (HFI.out _).mono ?_);rintro e w7 ⟨rfl,rfl⟩))
     | (go_at_call 50;((with_reducible refine HWT.out.mono ?_);rintro e w8 ⟨rfl,hs8⟩;obtain ⟨q2,HR8,HSUB,HM8⟩:=(HR.out.ext (Ext.refl wr).drew).out hs8;have hS5:w8.cell? (aD y 0)=some (.pointer (some ⟨d,0,none⟩)):=zaT HM8 (fun e=>e HH.out.2) hS0;have HK8:=qj (And.intro HR8 (And.intro HSUB HM8));clear hs8 HR8 HSUB HM8)))
   have hlty:y<wr.drew.heap.size:=HH.out.1.lt
   have hltf:gf<wr.drew.heap.size:=(HF.out.1.rd.2 (by rw [HFL.out];omega)).elim fun g hh=>by obtain ⟨o,e,hlt,_⟩:=hh;injection e with e;injection e with e1 _;subst e1;exact hlt
   have HF8:Hid (By w8 (some ⟨gf,of,none⟩) NL c6 Lf∧q2 gf=0):=qj ⟨By.mod (HF.out.1.ext (Ext.refl wr).drew) HK8.out.2.2 (fun z hz=>by injection hz with hz;subst hz;exact fun e=>e HF.out.2),zcC HK8.out.2.1 HF.out.2 hltf⟩
   have HH8:Hid (RLogAt w8 y d r inc s∧q2 y=0):=qj ⟨(HH.out.1.ext (Ext.refl wr).drew).mod HK8.out.2.2 (fun e=>e HH.out.2),zcC HK8.out.2.1 HH.out.2 hlty⟩
   have HR8:=qj HK8.out.1
   clear hS0 hS5 hcut e0 e1 e2 hlty hltf HK8
   by_cases h0:E2=0
   ·subst h0
    go_wp2_with fail
    go_roundw
    case rel=>exact ⟨j+1,q2,by omega,by go_num,qj (by rw [HY1.out]),by rw [HY1.out];exact HR8,HF8,HH8⟩
    case measure=>simp [intOf];omega
   ·have hne:(E2 != 0)=true:=by simpa using h0
    have HFIN:=qj (HYS.out h0)
    have HNE:=qj h0
    clear h0
    go_wp2_with fail
    go_ret
    have e:wrfE (0,m) (S:Int) Lf W=(E2,m2):=by
     unfold wrfE
     rw [HFIN.out]
     exact if_neg HNE.out
    rw [e]
    exact ⟨rfl,HR8.out.rout⟩
  ·obtain rfl:j=W:=by omega
   have hyw:=zdx (m:=m) (E:=0) (S:=(S:Int)) (L:=Lf) j
   have hf:wrfE (0,m) (S:Int) Lf j=(wrsE (0,m) (S:Int) Lf j).2.flush:=by
    unfold wrfE unE
    rw [if_pos HY0.out]
   have HFE:=qj hf
   have c0:=HH.out.1.cells.1
   have hfl:=zgX HR.out.rd (by have:=HFW.out;omega)
   have HFLU:=qj hfl
   clear hyw hf hfl
   go_wp2_with fail
   refine HFLU.out.mono ?_
   rintro e w9 ⟨rfl,ho⟩
   obtain ⟨q2,HR9,_⟩:=HR.out.out ho
   have HR9:=qj HR9
   clear ho
   go_wp2_with fail
   go_ret
   rw [HFE.out]
   exact ⟨rfl,HR9.out.rout⟩
theorem zkG (x y:Int) (k:Nat) (cl sq:Int) (ok:Nat) (key old val:ByteArray) (w:World) (hok:ok<256) :
 Calls Tryz.prog 37 #[.agg #[x,y],.agg #[k,cl,sq,ok,key,old,val]] w fun e w'=>∃A' c',e=.returned (.tuple #[.slice A' (pL x y ⟨k,cl,sq,ok,key,old,val⟩).length c',.int .i64 (pR x y ⟨k,cl,sq,ok,key,old,val⟩)])∧By w' A' (pL x y ⟨k,cl,sq,ok,key,old,val⟩).length c' (pL x y ⟨k,cl,sq,ok,key,old,val⟩)∧Ext w w':=by
 obtain ⟨i0,hi,hz0,hz1,hz2⟩:=info_parts zay
 have hx1:=(Ext.refl w).alloc (.cells #[x,y] 38)
 have hx2:=(Ext.refl (w.alloc (.cells #[x,y] 38))).alloc (.cells #[k,cl,sq,ok,key,old,val] 42)
 have HTB:=qj (zab (heap_alloc_new w (.cells #[x,y] 38)) hx2)
 have HT:=qj (heap_alloc2_new w (.cells #[x,y] 38) (.cells #[k,cl,sq,ok,key,old,val] 42))
 have HE:=qj (hx1.trans hx2)
 clear hx1 hx2
 cases hb:balE x y with
 | false =>
  rw [zqL hb,zrG hb]
  have HB:=qj hb
  clear hb
  go_enter Tryz.func37,Tryz.ntmps37
  go_wp2_with fail
  refine (zcr _ _ _).mono ?_
  rw [HB.out]
  rintro e w1 ⟨rfl,hx⟩
  have HE:=qj (HE.out.trans hx)
  clear hx
  go_wp2_with fail
  go_ret2
  exact ⟨none,0,rfl,By.nil_ _,HE.out⟩
 | true =>
  have HBB:=qj hb
  have HC:=qj (fun V=>zmY k cl sq ok key old val V hok)
  cases hk:enOk ⟨k,cl,sq,ok,key,old,val⟩ with
  | false =>
   rw [ztI hk,ztY hk]
   have HK:=qj hk
   clear hb hk
   go_enter Tryz.func37,Tryz.ntmps37
   go_wp2_with fail
   refine (zcr _ _ _).mono ?_
   rw [HBB.out]
   rintro e w1 ⟨rfl,hx⟩
   obtain ⟨j0,j1,j2,j3,j4,j5,j6⟩:=zaf (zab HT.out hx)
   have HE:=qj (HE.out.trans hx)
   clear hx
   go_wp2_with fail
   refine (zcc _ _ _ _ _ _ _ _).mono ?_
   rw [HK.out]
   rintro e w2 ⟨rfl,hx⟩
   have HE:=qj (HE.out.trans hx)
   clear hx j0 j1 j2 j3 j4 j5 j6
   go_wp2_with fail
   go_ret2
   exact ⟨none,0,rfl,By.nil_ _,HE.out⟩
  | true =>
   rw [zjN hb hk,zif hb hk]
   rw [zjo hk,zjV hk] at HC
   have HK:=qj hk
   obtain ⟨p1,p2,p3,p4⟩:=zbr.1 hb
   obtain ⟨xn,rfl⟩:=Int.eq_ofNat_of_zero_le (show 0≤x by omega)
   obtain ⟨yn,rfl⟩:=Int.eq_ofNat_of_zero_le p3
   have hlen:=zjA hk
   have HLN:Hid (zbb (xn:Int) (yn:Int) ⟨k,cl,sq,ok,key,old,val⟩=digs 6 xn++[yn]++enL ⟨k,cl,sq,ok,key,old,val⟩):=qj rfl
   generalize hE:enL ⟨k,cl,sq,ok,key,old,val⟩=E at *
   have HN:Hid ((zbb (xn:Int) (yn:Int) ⟨k,cl,sq,ok,key,old,val⟩).length=7+E.length):=qj (by
    rw [HLN.out]
    simp only [List.length_append,List.length_cons,List.length_nil,zaB])
   have HF6:Hid (xn≤1099511627776):=qj (by omega)
   have HEL:=qj hlen
   have hyn:yn<256:=by omega
   clear hb hk p1 p2 p3 p4 hlen hE
   go_enter Tryz.func37,Tryz.ntmps37
   go_wp2_with fail
   refine (zcr _ _ _).mono ?_
   rw [HBB.out]
   rintro e w1 ⟨rfl,hx⟩
   obtain ⟨j0,j1,j2,j3,j4,j5,j6⟩:=zaf (zab HT.out hx)
   have HT:=qj (zab HT.out hx)
   have HTB:=qj (zab HTB.out hx)
   have HE:=qj (HE.out.trans hx)
   clear hx
   go_wp2_with fail
   refine (zcc _ _ _ _ _ _ _ _).mono ?_
   rw [HK.out]
   rintro e w2 ⟨rfl,hx⟩
   have HT:=qj (zab HT.out hx)
   have HTB:=qj (zab HTB.out hx)
   have HE:=qj (HE.out.trans hx)
   clear hx j0 j1 j2 j3 j4 j5 j6
   obtain ⟨b0,b1⟩:=zfa HTB.out
   go_wp2_with fail
   refine (zcI 6 xn _ (zdZ HF6.out)).mono ?_
   rintro r w3 ⟨A3,k3,rfl,hown,hx⟩
   have hx:Ext w2 w3:=hx
   have HA:Hid (AppS w2 w3 A3 6 k3 (digs 6 xn)):=qj ⟨hown,hx,zaV 6 xn⟩
   have HT:=qj (zab HT.out hx)
   have HTB:=qj (zab HTB.out hx)
   clear hown hx b0 b1
   obtain ⟨b0,b1⟩:=zfa HTB.out
   have hx:=(Ext.refl w3).alloc (.cells #[yn] 5)
   have HA:=qj (HA.out.more hx)
   have HT:=qj (zab HT.out hx)
   have HLIT:=qj (By.lit w3 [yn] 5 (by simp;omega) (by simp) (#[.int .u8 yn]) rfl)
   have hsz:=HA.out.ext.size
   clear hx
   go_wp2_with (at_builtin;refine zak rfl _ _ 45 rfl w2.heap.size 5 i0 Tryz.underlying45 hi hz0 hz1 hz2 _ 6 (vb (digs 6 xn)) rfl HA.out.own _ 1 _ [yn] rfl HLIT.out (by omega) hsz ?_)
   intro v4 w4 hown hg
   obtain ⟨A4,c4,rfl,ha,hm⟩:=HA.out.next hown hg HLIT.out.rd.lt
   have HT:=qj (zah HT.out hm (HA.out.off HT.out (by decide)))
   have HA:=qj ha
   clear hown hg ha hm HLIT b0 b1 hsz
   obtain ⟨j0,j1,j2,j3,j4,j5,j6⟩:=zaf HT.out
   go_wp2_with fail
   refine (HC.out _).mono ?_
   rintro e w5 ⟨A5,c5,rfl,hb,hx⟩
   have HB5:=qj hb
   have HA:=qj (HA.out.more hx)
   have hsz:=HA.out.ext.size
   clear hb hx j0 j1 j2 j3 j4 j5 j6
   go_wp2_with (at_builtin;refine zak rfl _ _ 45 rfl w2.heap.size 5 i0 Tryz.underlying45 hi hz0 hz1 hz2 _ 7 (vb (digs 6 xn++[yn])) rfl HA.out.own _ E.length _ E rfl HB5.out (by have:=HEL.out;omega) hsz ?_)
   intro v6 w6 hown hg
   obtain ⟨A6,c6,rfl,ha,hm⟩:=HA.out.next hown hg HB5.out.rd.lt
   have HA:=qj ha
   clear hown hg ha hm hsz
   go_wp2_with fail
   go_ret2
   refine ⟨_,_,zet _ _ HN.out.symm,?_,HE.out.trans HA.out.ext⟩
   rw [HN.out,HLN.out]
   exact HA.out.by_
theorem zjf {w w':World} {d:Nat} {p:Nat→Nat} {m:DM} (h:RD w d p m) (hx:Ext w w'):ROut d p w m w':=⟨p,h.ext hx,Mod.of_ext hx,fun _ hk=>.inl hk⟩
theorem zlN (w:World) (x y_:Int) (e:Ent):Ext w ((w.alloc (.cells #[x,y_] 38)).alloc (.cells e 42))∧((w.alloc (.cells #[x,y_] 38)).alloc (.cells e 42)).heap[w.heap.size]?=some (.cells #[x,y_] 38 (0,0))∧((w.alloc (.cells #[x,y_] 38)).alloc (.cells e 42)).heap[w.heap.size+1]?=some (.cells e 42 (0,0)):=by
 have h0:=heap_alloc_new w (.cells #[x,y_] 38)
 have h1:=heap_alloc_new (w.alloc (.cells #[x,y_] 38)) (.cells e 42)
 rw [World.size_alloc] at h1
 exact ⟨((Ext.refl w).alloc _).alloc _,zaa ((Ext.refl _).alloc _) h0,h1⟩
theorem zix {m:DM} {s:Nat} {r inc i x y:Int} {e:Ent}:((¬((s:Int)+1≤i∧i≤(s:Int)+24)∨¬(balE x y=true∧enOk e=true))∧m.putA s r inc i x y e=(2,m))∨((((s:Int)+1≤i∧i≤(s:Int)+24)∧(balE x y=true∧enOk e=true)∧m.up=false)∧m.putA s r inc i x y e=(5,m))∨((((s:Int)+1≤i∧i≤(s:Int)+24)∧(balE x y=true∧enOk e=true)∧m.up=true)∧m.putA s r inc i x y e=m.putW r inc i x y e):=by
 unfold DM.putA putE
 by_cases h1:(s:Int)+1≤i∧i≤(s:Int)+24
 ·by_cases h2:balE x y=true∧enOk e=true
  ·cases h3:m.up with
   | false=>exact .inr (.inl ⟨⟨h1,h2,rfl⟩,by simp [h1,h2]⟩)
   | true=>exact .inr (.inr ⟨⟨h1,h2,rfl⟩,by simp [h1,h2]⟩)
  ·exact .inl ⟨.inr h2,by rw [if_neg (by rw [if_neg (by simp [h1]),if_pos h2];omega),if_neg (by simp [h1]),if_pos h2]⟩
 ·exact .inl ⟨.inl h1,by rw [if_neg (by rw [if_pos h1];omega),if_pos h1]⟩
theorem zqM {w:World} {y d:Nat} {r inc:Int} {s:Nat} {q:Nat→Nat} {m:DM} (h:RLogAt w y d r inc s) (hd:RD w d q m) (hy:q y=0) (hr:0≤r∧r≤6) (hc:1≤inc∧inc≤1099511627776) (hs:s≤1099511627752) (i x y_:Int) (e:Ent) (hok:e.ok<256) (hfew:m.waits.length+20≤1000000) :
 Calls Tryz.prog 10 #[aD y 0,i,.agg #[x,y_],.agg e] w fun e' w'=>e'=.returned (.int .i64 (m.putA s r inc i x y_ e).1)∧ROut d q w (m.putA s r inc i x y_ e).2 w':=by
 obtain ⟨hx0,hb0,he0⟩:=zlN w x y_ e
 have HPR:=qj (fun V=>zkG x y_ e.k e.cl e.sq e.ok e.key e.old e.val V hok)
 have HH:=qj (fun V (hx:Ext w V)=>zfq (h.ext hx) hs i)
 have H:=qj h
 have HD:=qj hd
 have HY:=qj hy
 have HX:=qj hx0
 have HBL:=qj hb0
 have HEN:=qj he0
 have HFW:=qj hfew
 have HS:=qj hs
 have HRC:=qj (And.intro hr hc)
 clear h hd hy hx0 hb0 he0 hfew hs hr hc
 rcases zix (m:=m) (s:=s) (r:=r) (inc:=inc) (i:=i) (x:=x) (y:=y_) (e:=e) with ⟨hbad,hp⟩ | ⟨⟨hl,hv,hu⟩,hp⟩ | ⟨⟨hl,hv,hu⟩,hp⟩
 ·rw [hp]
  obtain ⟨E,hE⟩:∃E,pR x y_ e=E:=⟨_,rfl⟩
  have hEq:pR x y_ ⟨e.k,e.cl,e.sq,e.ok,e.key,e.old,e.val⟩=E:=hE
  obtain ⟨lv,hlv⟩:∃b,decide ((s:Int)+1≤i∧i≤(s:Int)+24)=b:=⟨_,rfl⟩
  rw [hEq] at HPR
  rw [hlv] at HH
  have hcs:lv=false∨lv=true∧(E != 0)=true:=by
   cases lv with
   | false=>exact .inl rfl
   | true =>
    rcases hbad with hb | hb
    ·exact absurd (of_decide_eq_true hlv) hb
    ·exact .inr ⟨rfl,by rw [←hE];unfold pR;rw [if_neg hb];rfl⟩
  generalize pL x y_ ⟨e.k,e.cl,e.sq,e.ok,e.key,e.old,e.val⟩=PL at *
  clear hp hbad hE hEq hlv
  go_enter Tryz.func10,Tryz.ntmps10
  go_upto_region 1 with (fail)
  generalize ((w.alloc (.cells #[x,y_] 38)).alloc (.cells e 42))=W at *
  obtain ⟨b0,b1⟩:=zaM HBL.out
  obtain ⟨v0,v1,v2,v3,v4,v5,v6⟩:=zaf HEN.out
  rcases hcs with rfl | ⟨rfl,he⟩
  all_goals
   go_wp2_with fail
   refine (HPR.out _).mono ?_
   rintro e' w1 ⟨A1,c1,rfl,_,hx⟩
   have HX:=qj (HX.out.trans hx)
   clear hx
   go_wp2_with fail
   refine (HH.out _ HX.out).mono ?_
   rintro e' w2 ⟨rfl,rfl⟩
   go_wp2_with fail
   go_ret
   exact ⟨rfl,zjf HD.out HX.out⟩
 ·rw [hp]
  have hE:pR x y_ e=0:=zif hv.1 hv.2
  have hEq:pR x y_ ⟨e.k,e.cl,e.sq,e.ok,e.key,e.old,e.val⟩=0:=hE
  have hlv:decide ((s:Int)+1≤i∧i≤(s:Int)+24)=true:=decide_eq_true hl
  rw [hEq] at HPR
  rw [hlv] at HH
  generalize pL x y_ ⟨e.k,e.cl,e.sq,e.ok,e.key,e.old,e.val⟩=PL at *
  have hdd:m.down=true∨m.down=false∧m.dead=true:=by
   unfold DM.up at hu
   cases h1:m.down <;> cases h2:m.dead <;> simp [h1,h2] at hu ⊢
  clear hp hE hEq hlv hl hv hu
  go_enter Tryz.func10,Tryz.ntmps10
  go_upto_region 1 with (fail)
  generalize ((w.alloc (.cells #[x,y_] 38)).alloc (.cells e 42))=W at *
  obtain ⟨b0,b1⟩:=zaM HBL.out
  obtain ⟨v0,v1,v2,v3,v4,v5,v6⟩:=zaf HEN.out
  go_wp2_with fail
  refine (HPR.out _).mono ?_
  rintro e' w1 ⟨A1,c1,rfl,_,hx⟩
  have HX:=qj (HX.out.trans hx)
  clear hx
  go_wp2_with fail
  refine (HH.out _ HX.out).mono ?_
  rintro e' w2 ⟨rfl,rfl⟩
  obtain ⟨_,_,_,d4,d5⟩:=zcq (HD.out.ext HX.out)
  obtain ⟨y0,_⟩:=(H.out.ext HX.out).cells
  rcases hdd with hq | ⟨hq,hq2⟩
  all_goals
   rw [hq] at d4
   try rw [hq2] at d5
   go_wp2_with fail
   go_ret
   exact ⟨rfl,zjf HD.out HX.out⟩
 ·rw [hp]
  obtain ⟨n,hpq,hn24⟩:=zcT (i:=i)
  obtain ⟨k,hk,hk2⟩:∃k:Nat,m.nextW r i=(k:Int)∧k<2:=by
   rcases zfF m r i with e | e
   ·exact ⟨0,by rw [e];rfl,by omega⟩
   ·exact ⟨1,by rw [e];rfl,by omega⟩
  have hp48:2 * n+k<48:=by omega
  obtain ⟨hr,hc⟩:=HRC.out
  have hs:=HS.out
  have hm3:=zqy (r:=r) (inc:=inc) (i:=i) hr (by omega) hc hn24
  have hm4:=zqB (r:=r) (inc:=inc) (i:=i) hr (by omega) hc hp48
  have h4:=zmj (x:=x) (y:=y_) hm4 hv.2
  have h3:=zmr (x:=x) (y:=y_) (k:=k) hm3
  have hl4:(frmW r inc i ((2 * n+k:Nat):Int) x y_ e).length=128:=by unfold frmW;rw [(zbd h4).1];rfl
  have hl3:(recW r inc i (n:Int) x y_ (k:Int)).length=64:=by unfold recW;rw [(zbd h3).1];rfl
  have hput:m.putW r inc i x y_ e=wrfE (wrfE (0,m) (zai 4 ((2 * n+k:Nat):Int)) (frmW r inc i ((2 * n+k:Nat):Int) x y_ e) 2) (zai 3 (n:Int)) (recW r inc i (n:Int) x y_ (k:Int)) 1:=by
   have he:((2 * n+k:Nat):Int)=2 * (n:Int)+(k:Int):=by omega
   unfold DM.putW
   rw [hpq,hk,←zhy (by rw [←he];exact hl4) hl3,he]
   rfl
  rw [hput]
  have hE:pR x y_ e=0:=zif hv.1 hv.2
  have hPL:pL x y_ e=zbb x y_ e:=zjN hv.1 hv.2
  have hEq:pR x y_ ⟨e.k,e.cl,e.sq,e.ok,e.key,e.old,e.val⟩=0:=hE
  have hPq:pL x y_ ⟨e.k,e.cl,e.sq,e.ok,e.key,e.old,e.val⟩=zbb x y_ e:=hPL
  have hlv:decide ((s:Int)+1≤i∧i≤(s:Int)+24)=true:=decide_eq_true hl
  have hk01:(k:Int)=0∨(k:Int)=1:=by omega
  have hrb:recB x y_ (k:Int)=true:=zcm.2 ⟨zbr.1 hv.1,hk01⟩
  rw [hEq,hPq] at HPR
  rw [hlv] at HH
  have hdd:m.down=false∧m.dead=false:=by
   unfold DM.up at hu
   cases h1:m.down <;> cases h2:m.dead <;> simp [h1,h2] at hu ⊢
  have hrd:=fun V (hx:Ext w V)=>ziW (H.out.ext hx) (HD.out.ext hx) n hn24 i (by omega) (by omega) hpq (by have:=HFW.out;omega)
  have hnx:=fun V=>zpO (m.recM r (n:Int)) (m.copM r (2 * (n:Int))) (m.copM r (2 * (n:Int)+1)) i V (zgA _ _ _)
  rw [show nextL (m.recM r (n:Int)) (m.copM r (2 * (n:Int))) (m.copM r (2 * (n:Int)+1)) i=(k:Int) by rw [←hk,←hpq];rfl] at hnx
  have HRD:=qj hrd
  have HNX:=qj hnx
  have hw4:=fun (V:World) (hx:Ext w V) (A:Option Addr) (cc:Nat) (hb:By V A (zbb x y_ e).length cc (zbb x y_ e))=>zgW (H.out.ext hx) (HD.out.ext hx) HY.out 4 ((2 * n+k:Nat):Int) i 2 rfl (.inr rfl) (sF (2 * n+k)) (zjw hp48) (by unfold sF;omega) A _ cc _ hb h4 (by have:=HFW.out;omega)
  have hw3:=fun (V:World) (m1:DM) (p2:Nat→Nat) (h:RLogAt V y d r inc s) (hd:RD V d p2 m1) (hy:p2 y=0) (A:Option Addr) (cc:Nat) (hb:By V A (rcL x y_ (k:Int)).length cc (rcL x y_ (k:Int))) (hf:m1.waits.length≤m.waits.length+2)=>zgW h hd hy 3 (n:Int) i 1 rfl (.inl rfl) (sR n) (zjY hn24) (by unfold sR;omega) A _ cc _ hb (by rw [zjr hrb];exact h3) (by have:=HFW.out;omega)
  have HW4:=qj hw4
  have HW3:=qj hw3
  have hfe:sealL r 4 ((2 * n+k:Nat):Int) i inc (zbb x y_ e) ((2:Nat):Int)=frmW r inc i ((2 * n+k:Nat):Int) x y_ e:=rfl
  have hre:sealL r 3 (n:Int) i inc (rcL x y_ (k:Int)) ((1:Nat):Int)=recW r inc i (n:Int) x y_ (k:Int):=by rw [zjr hrb];rfl
  rw [hfe] at HW4
  rw [hre] at HW3
  rw [zjw hp48,zjY hn24]
  obtain ⟨_,_,_,d4,d5⟩:=zcq (HD.out.ext HX.out)
  rw [hdd.1] at d4
  rw [hdd.2] at d5
  obtain ⟨y0,_⟩:=(H.out.ext HX.out).cells
  have hi1:1≤i:=by omega
  have hi2:i≤1099511627776:=by omega
  have hpl:(i-1).tmod 24=(n:Int):=by rw [Int.tmod_eq_emod_of_nonneg (by omega)];exact hpq
  have hpl2:(i-1)%24=(n:Int):=hpq
  clear hp hput hE hPL hEq hPq hlv hl hv hu hdd hm3 hm4 h4 h3 hl4 hl3 hrd hnx hw4 hw3 hpq hk hr hc hs hfe hre hk01 hp48 hrb
  generalize (m.recM r (n:Int))=P at *
  generalize (m.copM r (2 * (n:Int)))=C0 at *
  generalize (m.copM r (2 * (n:Int)+1))=C1 at *
  generalize frmW r inc i ((2 * n+k:Nat):Int) x y_ e=FR at *
  generalize recW r inc i (n:Int) x y_ (k:Int)=RW at *
  generalize sF (2 * n+k)=S4 at *
  generalize sR n=S3 at *
  go_enter Tryz.func10,Tryz.ntmps10
  go_upto_region 1 with (fail)
  generalize ((w.alloc (.cells #[x,y_] 38)).alloc (.cells e 42))=W at *
  obtain ⟨b0,b1⟩:=zaM HBL.out
  obtain ⟨v0,v1,v2,v3,v4,v5,v6⟩:=zaf HEN.out
  go_wp2_with fail
  refine (HPR.out _).mono ?_
  rintro e' w1 ⟨A1,c1,rfl,hby,hx⟩
  have HX:=qj (HX.out.trans hx)
  have HBL:=qj (zaa hx HBL.out)
  have HBY:=qj hby
  have y0:=zaq hx y0
  have d4:=zaq hx d4
  have d5:=zaq hx d5
  clear hx hby b0 b1 v0 v1 v2 v3 v4 v5 v6 HEN
  go_wp2_with fail
  refine (HH.out _ HX.out).mono ?_
  rintro e' w2 ⟨rfl,rfl⟩
  go_wp2_with fail
  refine (HRD.out _ HX.out).mono ?_
  rintro e w2 ⟨rfl,hx⟩
  have HX:=qj (HX.out.trans hx)
  have HBL:=qj (zaa hx HBL.out)
  have HBY:=qj (HBY.out.ext hx)
  clear hx d4 d5 y0
  obtain ⟨hp1,hp2,hp3⟩:=zbg w2 P C0 C1
  have i4:(Tryz.prog.info? 93).map (·.size)=some 22:=by kernel_rfl
  have HI4:=qj i4
  clear i4
  go_upto_region 7 with (refine zaP rfl 93 _ _ rfl (C0,C1) (w2.heap.size+1) (by simp) rfl rfl rfl HI4.out (by simp [Value.oneCell']) ?_)
  generalize ((w2.alloc (.cells P 90)).alloc (.cells (C0,C1) 93))=W3 at *
  have HX:=qj (HX.out.trans hp3)
  have HBL:=qj (zaa hp3 HBL.out)
  have HBY:=qj (HBY.out.ext hp3)
  obtain ⟨c0,c1',c2,c3,c4⟩:=hp1.cells
  obtain ⟨N,hN,hsz⟩:=zaz
  have hld:=zar hN hp2
  have HN:=qj hN
  clear hN hp1 hp2 hp3 HI4
  go_wp2_with fail
  refine (HNX.out W3).mono ?_
  rintro e' w4 ⟨rfl,hx⟩
  have HX:=qj (HX.out.trans hx)
  have HBL:=qj (zaa hx HBL.out)
  have HBY:=qj (HBY.out.ext hx)
  clear hx c0 c1' c2 c3 c4 hsz hld HN HNX HRD
  go_wp2_with fail
  rw [show 2 * (n:Int)+(k:Int)=((2 * n+k:Nat):Int) by omega]
  refine (HW4.out _ HX.out _ _ HBY.out).mono ?_
  obtain ⟨E1,hE1⟩:∃E1,(wrfE (0,m) (S4:Int) FR 2).1=E1:=⟨_,rfl⟩
  obtain ⟨m1,hm1⟩:∃m1,(wrfE (0,m) (S4:Int) FR 2).2=m1:=⟨_,rfl⟩
  have HX1:Hid (wrfE (0,m) (S4:Int) FR 2=(E1,m1)):=qj (by rw [←hE1,←hm1])
  have HWT:Hid (m1.waits.length≤m.waits.length+2):=qj (by rw [←hm1];exact zem 2)
  rw [HX1.out]
  rintro e' w5 ⟨rfl,hro⟩
  have hq0:q w.heap.size=0:=zdk HD.out (Nat.le_refl _)
  have hbl:=(Array.getElem?_eq_some_iff.1 HBL.out).1
  obtain ⟨p2,hq2,hsub,hmod⟩:=((RQ.start HD.out).ext HX.out).out hro
  have HQ2:=qj hq2
  have HR2:=qj (RLogAt.mod (H.out.ext HX.out) hmod (fun e=>e HY.out))
  have HY2:=qj (zcC hsub HY.out (H.out.ext HX.out).lt)
  have HBL:=qj (zah HBL.out hmod (fun e=>e hq0))
  clear hE1 hm1 hro hq0 hbl hq2 hsub hmod HW4 HBY HH HPR
  have hcs:E1=0∧(E1 != 0)=false∨E1≠0∧(E1 != 0)=true:=by
   by_cases h:E1=0
   ·exact .inl ⟨h,by rw [h];rfl⟩
   ·exact .inr ⟨h,by simp [h]⟩
  rcases hcs with ⟨rfl,hne⟩ | ⟨hz,hne⟩
  ·obtain ⟨b0,b1⟩:=zaM HBL.out
   go_wp2_with fail
   refine (zmV x y_ (k:Int) w5).mono ?_
   rintro e' w6 ⟨A2,c2,rfl,hby,hx⟩
   have HQ3:=qj (HQ2.out.ext hx)
   have HR3:=qj (HR2.out.ext hx)
   have HBY:=qj hby
   clear hby hx b0 b1
   go_wp2_with fail
   refine (HW3.out w6 m1 p2 HR3.out HQ3.out.rd HY2.out _ _ HBY.out HWT.out).mono ?_
   rintro e' w7 ⟨rfl,hro⟩
   obtain ⟨p3,hq3,_,_⟩:=HQ3.out.out hro
   have HQ4:=qj hq3
   clear hro hq3
   go_wp2_with fail
   go_ret
   rw [HX1.out]
   exact ⟨rfl,HQ4.out.rout⟩
  ·go_wp2_with fail
   go_ret
   rw [HX1.out,znu hz]
   exact ⟨rfl,HQ2.out.rout⟩
theorem zgY (n:Int) (w:World):(cQ 26 #[.int .i64 n] w (.bool (inI 0 n 1099511627752)):Prop):=by
 obtain ⟨b,hb⟩:∃b,inI 0 n 1099511627752=b:=⟨_,rfl⟩
 rw [hb]
 have HB:=qj hb
 clear hb
 by_cases h1:0≤n
 ·have HQ:Hid (decide (n≤1099511627752)=b):=qj (by rw [←HB.out];unfold inI;simp [h1])
  go_enter Tryz.func26,Tryz.ntmps26
  go_wp2_with fail
  go_ret
  exact ⟨by rw [←HQ.out];rfl,rfl⟩
 ·have hb:b=false:=by rw [←HB.out];unfold inI;simp;omega
  subst hb
  have h2:n<0:=by omega
  go_enter Tryz.func26,Tryz.ntmps26
  go_wp2_with fail
  go_ret
  exact ⟨rfl,rfl⟩
theorem zpV {w:World} {y d s:Nat} {r inc:Int} (h:RLogAt w y d r inc s) (n:Int) :
 Calls Tryz.prog 12 #[aD y 0,.int .i64 n] w fun e w'=>e=.returned (.int .i64 (if cutB s n=true then 0 else 2))∧RLogAt w' y d r inc (if cutB s n=true then n.toNat else s)∧Mod (fun k=>k=y) w w':=by
 obtain ⟨_,_,_,c3⟩:=h.cells
 have hf:=frozen_of_row w y 3 _ _ h.row
 have H:=qj h
 have HF:=qj (zgY n w)
 obtain ⟨b,hb⟩:∃b,cutB s n=b:=⟨_,rfl⟩
 have HB:=qj hb
 rw [hb]
 clear h hb
 by_cases h1:n<(s:Int)
 ·have hb:b=false:=by rw [←HB.out];unfold cutB inI;simp;omega
  subst hb
  clear HF HB
  go_enter Tryz.func12,Tryz.ntmps12
  go_wp2_with fail
  go_ret
  exact ⟨rfl,H.out,Mod.refl _ w⟩
 ·have h1:(s:Int)≤n:=by omega
  have e:inI 0 n 1099511627752=b:=by
   rw [←HB.out]
   unfold cutB inI
   rw [decide_eq_true h1,decide_eq_true (show (0:Int)≤n by omega)]
  rw [e] at HF
  have HN:Hid (n=(n.toNat:Int)):=qj (by omega)
  clear e HB
  cases b with
  | false =>
   go_enter Tryz.func12,Tryz.ntmps12
   go_wp2_with fail
   refine HF.out.mono ?_
   rintro e w1 ⟨rfl,rfl⟩
   go_wp2_with fail
   go_ret
   exact ⟨rfl,H.out,Mod.refl _ w⟩
  | true =>
   go_enter Tryz.func12,Tryz.ntmps12
   go_wp2_with fail
   refine HF.out.mono ?_
   rintro e w1 ⟨rfl,rfl⟩
   go_wp2_with fail
   go_ret
   refine ⟨rfl,⟨?_⟩,(Mod.refl (fun k=>k=y) w).setCell (p:=⟨y,3,none⟩) (.inl rfl) _⟩
   have:=zae (cs':=#[aD d 0,r,inc,.int .i64 n]) 3 H.out.row (.int .i64 n) rfl
   rw [←HN.out]
   exact this
theorem ziP {w:World} {d:Nat} {q:Nat→Nat} {m:DM} (hd:RD w d q m) (r c s:Int) (hE:openE m r c s≠0) :
 (cQ 8 #[aD d 0,r,c,s] w (.tuple #[.pointer none,.int .i64 (openE m r c s)]):Prop):=by
 obtain ⟨g,gc,d0,d4,d5⟩:=zcq hd
 have HF:=qj (zgY s w)
 have hsz:((m.size:Nat):Int)<156∨156≤((m.size:Nat):Int):=by omega
 obtain ⟨E,hEE⟩:∃E,openE m r c s=E:=⟨_,rfl⟩
 rw [hEE]
 have hE2:=hEE
 unfold openE at hE2
 rw [hEE] at hE
 clear hd hEE
 by_cases h0:m.size<156
 ·rw [if_pos h0] at hE2
  subst hE2
  have h0':((m.size:Nat):Int)<156:=by omega
  clear hsz h0 HF hE
  go_enter Tryz.func8,Tryz.ntmps8
  go_wp2_with fail
  refine bodyPost_ret (v:=.tuple Zk.l) (by simp [results,Tryz.results8,go_sem]) rfl ⟨rfl,rfl⟩
 rw [if_neg h0] at hE2
 have h0':(156:Int)≤((m.size:Nat):Int):=by omega
 clear h0 hsz
 by_cases h1:r<0
 ·rw [if_pos (by unfold inI;simp;omega)] at hE2
  subst hE2
  clear HF hE
  go_enter Tryz.func8,Tryz.ntmps8
  go_wp2_with fail
  refine bodyPost_ret (v:=.tuple Zk.l) (by simp [results,Tryz.results8,go_sem]) rfl ⟨rfl,rfl⟩
 have h1:0≤r:=by omega
 by_cases h2:6<r
 ·rw [if_pos (by unfold inI;simp;omega)] at hE2
  subst hE2
  clear HF hE
  go_enter Tryz.func8,Tryz.ntmps8
  go_wp2_with fail
  refine bodyPost_ret (v:=.tuple Zk.l) (by simp [results,Tryz.results8,go_sem]) rfl ⟨rfl,rfl⟩
 have h2:r≤6:=by omega
 rw [if_neg (by unfold inI;simp;omega)] at hE2
 by_cases h3:c<1
 ·rw [if_pos (by unfold inI;simp;omega)] at hE2
  subst hE2
  clear HF hE
  go_enter Tryz.func8,Tryz.ntmps8
  go_wp2_with fail
  refine bodyPost_ret (v:=.tuple Zk.l) (by simp [results,Tryz.results8,go_sem]) rfl ⟨rfl,rfl⟩
 have h3:1≤c:=by omega
 by_cases h4:1099511627776<c
 ·rw [if_pos (by unfold inI;simp;omega)] at hE2
  subst hE2
  clear HF hE
  go_enter Tryz.func8,Tryz.ntmps8
  go_wp2_with fail
  refine bodyPost_ret (v:=.tuple Zk.l) (by simp [results,Tryz.results8,go_sem]) rfl ⟨rfl,rfl⟩
 have h4:c≤1099511627776:=by omega
 rw [if_neg (by unfold inI;simp;omega)] at hE2
 cases hf:inI 0 s 1099511627752 with
 | false =>
  rw [if_pos hf] at hE2
  subst hE2
  rw [hf] at HF
  clear hE
  go_enter Tryz.func8,Tryz.ntmps8
  go_wp2_with fail
  refine HF.out.mono ?_
  rintro e w1 ⟨rfl,rfl⟩
  go_wp2_with fail
  refine bodyPost_ret (v:=.tuple Zk.l) (by simp [results,Tryz.results8,go_sem]) rfl ⟨rfl,rfl⟩
 | true =>
  rw [if_neg (by rw [hf];decide)] at hE2
  rw [hf] at HF
  have hu:m.up=false:=by
   cases hu:m.up with
   | false=>rfl
   | true=>rw [if_neg (by rw [hu];decide)] at hE2;exact absurd hE2.symm hE
  rw [if_pos hu] at hE2
  subst hE2
  have hdd:m.down=true∨m.down=false∧m.dead=true:=by
   unfold DM.up at hu
   cases h1:m.down <;> cases h2:m.dead <;> simp [h1,h2] at hu ⊢
  clear hf hu hE
  go_enter Tryz.func8,Tryz.ntmps8
  go_wp2_with fail
  refine HF.out.mono ?_
  rintro e w1 ⟨rfl,rfl⟩
  rcases hdd with hq | ⟨hq,hq2⟩
  all_goals
   rw [hq] at d4
   try rw [hq2] at d5
   go_wp2_with fail
   refine bodyPost_ret (v:=.tuple #[.pointer none,.int .i64 5]) (by simp [results,Tryz.results8,go_sem]) rfl ⟨rfl,rfl⟩
theorem zhK {w:World} {d:Nat} {q:Nat→Nat} {m:DM} (hd:RD w d q m) (r c:Int) (s:Nat) (hE:openE m r c s=0) :
 Calls Tryz.prog 8 #[aD d 0,r,c,.int .i64 s] w fun e w'=>e=.returned (.tuple #[aD w.heap.size 0,.int .i64 0])∧RLogAt w' w.heap.size d r c s∧Ext w w':=by
 obtain ⟨g,gc,d0,d4,d5⟩:=zcq hd
 obtain ⟨h6,⟨h1,h2⟩,⟨h3,h4⟩,hs',hu⟩:=zdB hE
 have hf:inI 0 (s:Int) 1099511627752=true:=by unfold inI;simp;omega
 have HF:=qj (zgY (s:Int) w)
 rw [hf] at HF
 have hdd:m.down=false∧m.dead=false:=by
  unfold DM.up at hu
  cases h1:m.down <;> cases h2:m.dead <;> simp [h1,h2] at hu ⊢
 rw [hdd.1] at d4
 rw [hdd.2] at d5
 have h0':(156:Int)≤((m.size:Nat):Int):=by omega
 clear hd hE hf hu hdd h6 hs'
 go_enter Tryz.func8,Tryz.ntmps8
 go_wp2_with fail
 refine HF.out.mono ?_
 rintro e w1 ⟨rfl,rfl⟩
 go_wp2_with fail
 refine bodyPost_ret (v:=.tuple #[aD w.heap.size 0,.int .i64 0]) (by simp [results,Tryz.results8,go_sem]) rfl ⟨rfl,⟨heap_alloc_new w _⟩,(Ext.refl w).alloc _⟩
section
set_option maxRecDepth 100000
end


section
open Go
/- There and back. -/
end
section
variable {r:Int}
section
variable {g:Int} {x y:List Nat} {v c u d:Nat} {b e:List Nat}
end
section
variable {m:DM} {pw:Int} {g:Int} {v:Nat} {b:List Nat}
end
end
section
variable {r:Int}
end
section
variable {m:DM} {pw:Int} {r:Int} {v:Nat} {b:List Nat}
end
structure ShM where
 ix:Nat:=0
 ar:Nat:=0
 ct:Nat:=0
section
open Go Go.RowKit Go.Shelf
attribute [local go_sem] Oper.semAt_some
end
section
open Go Go.RowKit Go.ChangeShapes Go.WideShapes Go.Deep
structure Lst where
 A:Option Addr:=none
 n:Nat:=0
 c:Nat:=0
 l:List Nat:=[]
instance:Inhabited Lst:=⟨{}⟩
section
variable {H:Type} {enc:TypeId × Value→H} {P:Program} {w:World} {base:Nat} {spare:Nat→Bool} {held:Bool}
end
end
section
open Go Go.RowKit Go.Shelf
attribute [local go_sem] Oper.semAt_some
end
section
open Go Go.RowKit Go.Maps
section
variable {w w':World} {h count bm nb:Nat} {f:Int→Option Lst}
end
end
section
open Go Go.RowKit Go.Shelf
attribute [local go_sem] Oper.semAt_some
end
section
open Go Go.RowKit Go.Shelf
attribute [local go_sem] Oper.semAt_some
end
section
open Go Go.RowKit Go.Maps
section
variable {w w':World} {h count bm nb:Nat} {f:Int→Option Lst}
end
end
section
open Go Go.RowKit Go.Maps
section
variable {w:World} {p:Option Addr}
end
end
section
variable {w w':World} {g d:Nat} {r inc:Int} {s:ShM}
end
section
variable {m0 m:DM} {pw:Int} {Z:List (Nat × List Nat)}
end
section
variable {r inc:Int} {s:ShM} {m:DM} {pw:Int}
end
section
variable {m:DM} {pw:Int} {r:Int} {v:Nat} {b:List Nat}
end
section
variable {m:DM} {pw:Int} {r:Int} {s:ShM} {b:List Nat}
end
section
variable {m:DM} {pw:Int} {r inc:Int} {s:ShM} {v:Nat} {b:List Nat}
end







end Go.Proofs.YtdbpdhlecgoclaaGreatDoor
