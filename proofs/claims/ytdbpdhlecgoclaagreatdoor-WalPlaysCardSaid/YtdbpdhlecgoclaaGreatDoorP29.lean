/-
  The contract of Put.
-/
import Derived.Test.YtdbpdhlecgoclaaGreatDoorP00
import Derived.Test.YtdbpdhlecgoclaaGreatDoorP11
import Derived.Test.YtdbpdhlecgoclaaGreatDoorP17
import Derived.Test.YtdbpdhlecgoclaaGreatDoorP18
import Derived.Test.YtdbpdhlecgoclaaGreatDoorP19
import Derived.Test.YtdbpdhlecgoclaaGreatDoorP23
import Derived.Test.YtdbpdhlecgoclaaGreatDoorP24
import Derived.Test.YtdbpdhlecgoclaaGreatDoorP25
import Derived.Test.YtdbpdhlecgoclaaGreatDoorP28
import Derived.Deep.QuietTactic
import Derived.BigQuiet
namespace Go.Proofs.YtdbpdhlecgoclaaGreatDoor
set_option maxRecDepth 100000
set_option maxHeartbeats 6400000
open Go Go.RowKit
section
open Go Go.RowKit Go.Shelf
attribute [local go_sem] Oper.semAt_some
theorem zsw (m:DM) (s:Nat) (i x y:Int) (e:Ent):orI (zdK s i) (orI (pR x y e) (upE m))=putE m s i x y e:=by
 unfold orI zdK pR upE putE
 by_cases h1:(s:Int)+1≤i∧i≤(s:Int)+24 <;> by_cases h2:balE x y=true∧enOk e=true <;> by_cases h3:m.up=true <;> simp [h1,h2,h3]
theorem zts {w:World} (q:Option Addr) (i x y:Int) (e:Ent) (a b E:Int) (hE:orI a (orI (pR x y e) b)=E) (h0:E≠0) (hL:Laid w) (hok:e.ok<256)
 (hk:∀V,Ext w V→Calls Tryz.prog 29 #[.pointer q,i] V fun r w'=>r=.returned a∧Ext V w') (hr:∀V,Ext w V→Calls Tryz.prog 30 #[.pointer q] V fun r w'=>r=.returned b∧V=w') :
 Calls Tryz.prog 9 #[.pointer q,i,.agg #[x,y],.agg e] w fun r w'=>r=.returned E∧Ext w w':=by
 have HK:=qj hk
 have HR:=qj hr
 have hx2:=((Ext.refl w).alloc (.cells #[x,y] 38)).alloc (.cells e 42)
 have HX:=qj hx2
 have HPR:=qj (fun V (hV:Ext w V)=>zeW x y e.k e.cl e.sq e.ok e.key e.old e.val V (hL.ext hV) hok)
 have hne:(E != 0)=true:=by simpa using h0
 have HEQ:=qj hE
 clear hk hr hx2 h0 hE hL
 go_enter Tryz.func9,Tryz.ntmps9
 go_wp2_with fail
 refine (HPR.out _ HX.out).mono ?_
 rintro r w1 ⟨A1,c1,rfl,_,hx⟩
 have HX:=qj (HX.out.trans hx)
 clear hx
 go_wp2_with fail
 refine (HK.out _ HX.out).mono ?_
 rintro r w2 ⟨rfl,hx⟩
 have HX:=qj (HX.out.trans hx)
 clear hx
 go_wp2_with fail
 refine (HR.out _ HX.out).mono ?_
 rintro r w3 ⟨rfl,rfl⟩
 go_wp2_with fail
 have hro:=heap_alloc_new w2 (.cells #[a,.int .i64 (pR x y e),b] 25)
 have hxo:=(Ext.refl w2).alloc (.cells #[a,.int .i64 (pR x y e),b] 25)
 refine (or3E w2.heap.size 3 a (pR x y e) b _ (cell_of_row _ _ 0 _ _ _ hro) (cell_of_row _ _ 1 _ _ _ hro) (cell_of_row _ _ 2 _ _ _ hro)).mono ?_
 rintro r w3 ⟨rfl,rfl⟩
 rw [HEQ.out]
 have HX:=qj (HX.out.trans hxo)
 clear hro hxo
 go_wp2_with fail
 go_ret
 exact ⟨rfl,HX.out⟩
theorem zem {m:DM} {E S:Int} {L:List Nat} (W:Nat):(wrfE (E,m) S L W).2.waits.length≤m.waits.length+W:=by
 have h:=zdx (m:=m) (E:=E) (S:=S) (L:=L) W
 unfold wrfE unE
 split
 ·have hf:∀m:DM,m.flush.2.waits.length≤m.waits.length:=fun m=>by
   unfold DM.flush
   split
   ·simp
   ·split <;> simp
  exact Nat.le_trans (hf _) h
 ·exact h
theorem ztp {w:World} {F:Nat→Prop} {g d s:Nat} {r inc i:Int} {bl bi bu bf:Nat} {m:DM} {E:Int} (hb:WBox w F g d s r inc i bl bi bu bf) (hw:WrS w d F F bf w (E,m)) (hL:LaidF w) (hLM:∀V,Mod (fun k=>F k∨k=bf) w V→LaidF V)
 (p:Nat) (hp:p<48) (A:Option Addr) (c:Nat) (x y:Int) (e:Ent) (hby:By w A (zbb x y e).length c (zbb x y e)) (hse:sealE r 4 p i inc (zbb x y e).length 2=0) (hfew:m.waits.length+4≤1000000) :
 Calls Tryz.prog 71 #[.int .i64 4,.int .i64 p,.slice A (zbb x y e).length c,aD bl 0,aD bi 0,aD bu 0,aD bf 0] w fun r' w' =>
  r'=.returned (.int .i64 (wrfE (E,m) (zai 4 p) (frmW r inc i p x y e) 2).1)∧WrT w d F F bf w w' (wrfE (E,m) (zai 4 p) (frmW r inc i p x y e) 2):=by
 have h:=ziN hb hw hL hLM 4 (p:Int) (zgQ hp) A _ c _ hby (by rw [wid4];exact hse) hfew
 rw [wid4] at h
 exact h
theorem ztD {w:World} {F:Nat→Prop} {g d s:Nat} {r inc i:Int} {bl bi bu bf:Nat} {m:DM} {E:Int} (hb:WBox w F g d s r inc i bl bi bu bf) (hw:WrS w d F F bf w (E,m)) (hL:LaidF w) (hLM:∀V,Mod (fun k=>F k∨k=bf) w V→LaidF V)
 (q:Nat) (hq:q<24) (A:Option Addr) (c:Nat) (x y k:Int) (hby:By w A 8 c (recL x y k)) (hse:sealE r 3 q i inc 8 1=0) (hfew:m.waits.length+4≤1000000) :
 Calls Tryz.prog 71 #[.int .i64 3,.int .i64 q,.slice A 8 c,aD bl 0,aD bi 0,aD bu 0,aD bf 0] w fun r' w' =>
  r'=.returned (.int .i64 (wrfE (E,m) (zai 3 q) (recW r inc i q x y k) 1).1)∧WrT w d F F bf w w' (wrfE (E,m) (zai 3 q) (recW r inc i q x y k) 1):=by
 have h:=ziN hb hw hL hLM 3 (q:Int) (zhh hq) A _ c _ hby (by rw [wid3];exact hse) hfew
 rw [wid3] at h
 exact h
theorem zoS {w:World} {F:Nat→Prop} {g d s i q p:Nat} {r inc x y k:Int} {e:Ent} {m:DM} (rc:Rec) (f0 f1:CopL) (h:LogAt w g d r inc s) (hd:zao w d F m) (hg:¬F g) (hL:LaidF w) (hLS:LaidS w) (hLM:∀V,Mod F w V→LaidF V)
 (hk:∀V,Ext w V→Calls Tryz.prog 29 #[aD g 0,.int .i64 i] V fun r w'=>r=.returned (.int .i64 0)∧Ext V w') (hr:∀V,Ext w V→Calls Tryz.prog 30 #[aD g 0] V fun r w'=>r=.returned (.int .i64 0)∧V=w')
 (hpr:∀V,Ext w V→Calls Tryz.prog 27 #[.agg #[x,y],.agg e] V fun r w'=>∃A' c',r=.returned (.tuple #[.slice A' (zbb x y e).length c',.int .i64 0])∧By w' A' (zbb x y e).length c' (zbb x y e)∧Ext V w')
 (hrd:∀V,Ext w V→Calls Tryz.prog 31 #[aD g 0,.int .i64 i] V fun r w'=>r=.returned (.tuple #[.agg rc,.agg (f0,f1)])∧Ext V w')
 (hnx:∀V,Calls Tryz.prog 32 #[.agg rc,.agg (f0,f1),.int .i64 i] V fun r w'=>r=.returned k∧Ext V w')
 (hpn:∀V,Ext w V→Calls Tryz.prog 33 #[.agg #[x,y],k] V fun r w'=>∃A' c',r=.returned (.tuple #[.slice A' 8 c',.int .i64 0])∧By w' A' 8 c' (recL x y k)∧(∀g o,A'=some ⟨g,o,none⟩→V.heap.size≤g)∧Ext V w')
 (hfp:∀V,Calls Tryz.prog 35 #[.int .i64 i,k] V fun r w'=>r=.returned (.int .i64 (p:Int))∧V=w') (hrp:∀V,Calls Tryz.prog 36 #[.int .i64 i] V fun r w'=>r=.returned (.int .i64 (q:Int))∧V=w')
 (hp:p<48) (hq:q<24) (hs4:sealE r 4 (p:Int) (i:Int) inc (zbb x y e).length 2=0) (hs3:sealE r 3 (q:Int) (i:Int) inc 8 1=0) (hfew:m.waits.length+20≤1000000) :
 Calls Tryz.prog 9 #[aD g 0,.int .i64 i,.agg #[x,y],.agg e] w fun r' w'=>r'=.returned (.int .i64 (wrfE (wrfE (0,m) (zai 4 p) (frmW r inc i p x y e) 2) (zai 3 q) (recW r inc i q x y k) 1).1)∧Step d F w (wrfE (wrfE (0,m) (zai 4 p) (frmW r inc i p x y e) 2) (zai 3 q) (recW r inc i q x y k) 1).2 w':=by
 have HK:=qj hk
 have HR:=qj hr
 have HPR:=qj hpr
 have HRD:=qj hrd
 have HNX:=qj hnx
 have HPN:=qj hpn
 have HFP:=qj hfp
 have HRP:=qj hrp
 have H:=qj (And.intro h (And.intro hd hg))
 have HLL:=qj (And.intro hL (And.intro hLS hLM))
 have HSE:=qj (And.intro hs4 hs3)
 have HPQ:=qj (And.intro hp hq)
 have HFW:=qj hfew
 have hi4:(Tryz.prog.info? 93).map (·.size)=some 22:=by kernel_rfl
 have HI4:=qj hi4
 have hxb:=(Ext.refl w).alloc (.cells #[x,y] 38)
 have hx2:=hxb.alloc (.cells e 42)
 have hrb:=zaa ((Ext.refl (w.alloc (.cells #[x,y] 38))).alloc (.cells e 42)) (heap_alloc_new w (.cells #[x,y] 38))
 have HX:=qj hx2
 have HRB:=qj hrb
 clear hk hr hpr hrd hnx hpn hfp hrp h hd hg hL hLS hLM hs4 hs3 hp hq hfew hi4 hxb hx2 hrb
 go_enter Tryz.func9,Tryz.ntmps9
 go_wp2_with fail
 obtain ⟨bb,hbb⟩:∃bb,w.heap.size=bb:=⟨_,rfl⟩
 have HBB:=qj hbb
 rw [hbb] at HRB ⊢
 generalize (w.alloc (.cells #[x,y] 38)).alloc (.cells e 42)=V0 at HX HRB ⊢
 clear hbb
 refine (HPR.out _ HX.out).mono ?_
 rintro r1 w1 ⟨A1,c1,rfl,hb,hx⟩
 have HX:=qj (HX.out.trans hx)
 have HRB:=qj (zaa hx HRB.out)
 have HBY:=qj hb
 clear hx hb
 go_wp2_with fail
 refine (HK.out _ HX.out).mono ?_
 rintro r1 w2 ⟨rfl,hx⟩
 have HX:=qj (HX.out.trans hx)
 have HRB:=qj (zaa hx HRB.out)
 have HBY:=qj (HBY.out.ext hx)
 clear hx
 go_wp2_with fail
 refine (HR.out _ HX.out).mono ?_
 rintro r1 w3 ⟨rfl,rfl⟩
 go_wp2_with fail
 have hro:=heap_alloc_new w2 (.cells Zk.i 25)
 have hxo:=(Ext.refl w2).alloc (.cells Zk.i 25)
 refine (or3E w2.heap.size 3 0 0 0 _ (cell_of_row _ _ 0 _ _ _ hro) (cell_of_row _ _ 1 _ _ _ hro) (cell_of_row _ _ 2 _ _ _ hro)).mono ?_
 rw [show orI 0 (orI 0 0)=0 from rfl]
 rintro r1 w3 ⟨rfl,rfl⟩
 have HX:=qj (HX.out.trans hxo)
 have HRB:=qj (zaa hxo HRB.out)
 have HBY:=qj (HBY.out.ext hxo)
 clear hro hxo
 generalize w2.alloc (.cells Zk.i 25)=V2 at *
 go_wp2_with fail
 refine (HRD.out _ HX.out).mono ?_
 rintro r1 w3 ⟨rfl,hx⟩
 have HX:=qj (HX.out.trans hx)
 have HRB:=qj (zaa hx HRB.out)
 have HBY:=qj (HBY.out.ext hx)
 clear hx
 go_upto_region 6 with (refine zaP rfl 93 _ _ rfl (f0,f1) (w3.heap.size+1) (by simp) rfl rfl rfl HI4.out (by simp [Value.oneCell']) ?_)
 simp only [Act.put]
 have hr1:=zaa ((Ext.refl (w3.alloc (.cells rc 90))).alloc (.cells (f0,f1) 93)) (heap_alloc_new w3 (.cells rc 90))
 have hr2:=heap_alloc2_new w3 (.cells rc 90) (.cells (f0,f1) 93)
 have hx1:=((Ext.refl w3).alloc (.cells rc 90)).alloc (.cells (f0,f1) 93)
 have HX:=qj (HX.out.trans hx1)
 have HRB:=qj (zaa hx1 HRB.out)
 have HBY:=qj (HBY.out.ext hx1)
 generalize (w3.alloc (.cells rc 90)).alloc (.cells (f0,f1) 93)=W at *
 generalize w3.heap.size=g1 at *
 obtain ⟨c0,c1,c2,c3,c4⟩:=cr5 (hr1)
 have HRN:Hid (W.rangeAt (g1+1) 0 (f0,f1)):=qj (zau (f0,f1) hr2 0)
 clear hr1 hr2 hx1
 go_wp2_with (refine wpList_load_mid rfl 93 _ rfl (g1+1) 0 rfl (f0,f1) _ HRN.out Tryz.underlying93 rfl HI4.out ?_)
 refine (HNX.out W).mono ?_
 rintro r1 w4 ⟨rfl,hx⟩
 have HX:=qj (HX.out.trans hx)
 have HRB:=qj (zaa hx HRB.out)
 have HBY:=qj (HBY.out.ext hx)
 clear hx c0 c1 c2 c3 c4 HRN
 have b0:=cell_of_row w4 bb 0 _ _ _ HRB.out
 have b1:=cell_of_row w4 bb 1 _ _ _ HRB.out
 go_wp2_with fail
 refine (HPN.out _ HX.out).mono ?_
 rintro r1 w5 ⟨A5,c5,rfl,hb5,hf5,hx⟩
 have HF5:Hid (∀g o,A5=some ⟨g,o,none⟩→w.heap.size≤g):=qj fun g o hA=>Nat.le_trans HX.out.size (hf5 g o hA)
 have HX:=qj (HX.out.trans hx)
 have HBY:=qj (HBY.out.ext hx)
 have HB5:=qj hb5
 clear hx hb5 hf5 b0 b1 HRB
 go_wp2_with fail
 refine (zlP g (i:Int) w5).mono ?_
 rintro r1 w6 ⟨bl,bi,bf,bu,rfl,hge,hne,hx,hcl,hci,hrf,hcu⟩
 have hx6:Ext w w6:=HX.out.trans hx
 have hs5:=HX.out.size
 have hF:=H.out.2.1.lt
 have hgl:=H.out.1.lt
 have hoff:∀k,w5.heap.size≤k→¬F k:=fun k hk hf=>by have:=hF k hf;omega
 have HWB:Hid (WBox w6 F g d s r inc (i:Int) bl bi bu bf):=qj ⟨H.out.1.ext hx6,hcl,hci,hcu,⟨H.out.2.2,hoff _ hge.1,hoff _ hge.2.1,hoff _ hge.2.2.2⟩,⟨by omega,hne.1,hne.2.1,hne.2.2⟩⟩
 have HWS:Hid (WrS w6 d F F bf w6 (0,m)):=qj (WrS.start (H.out.2.1.ext hx6) (hoff _ hge.2.2.1) hrf)
 have HLM:Hid (∀V,Mod (fun k=>F k∨k=bf) w6 V→LaidF V):=qj fun V hV=>HLL.out.2.2 V ((Mod.of_ext hx6).trans hV fun k hk=>hk.imp id fun e=>by subst e;omega)
 have HL6:=qj (HLL.out.1.ext hx6)
 have HBY:=qj (HBY.out.ext hx)
 obtain ⟨g5,o5,e5,hlt5,_⟩:=HB5.out.rd.2 (show 0<(recL x y k).length by rw [zcZ];omega)
 subst e5
 have HO5:Hid (Off (fun k=>F k∨k=bf) (some ⟨g5,o5,none⟩)):=qj fun p hp=>by
  injection hp with hp
  subst hp
  have h1:=HF5.out g5 o5 rfl
  rintro (h2 | h2)
  ·have h3:g5<w.heap.size:=hF _ h2
   omega
  ·have h3:g5=bf:=h2
   omega
 have HB5:=qj (HB5.out.ext hx)
 have HX6:=qj hx6
 have HBF:Hid (w.heap.size≤bf):=qj (by omega)
 clear hge hne hx hcl hci hrf hcu hx6 hs5 hF hgl hoff hlt5 HF5
 go_wp2_with fail
 refine (HFP.out _).mono ?_
 rintro r1 w7 ⟨rfl,rfl⟩
 go_wp2_with fail
 refine (ztp HWB.out HWS.out HL6.out HLM.out p HPQ.out.1 A1 c1 x y e HBY.out HSE.out.1 (by have:=HFW.out;omega)).mono ?_
 obtain ⟨E1,hE1⟩:∃E1,(wrfE (0,m) (zai 4 p) (frmW r inc i p x y e) 2).1=E1:=⟨_,rfl⟩
 obtain ⟨m1,hm1⟩:∃m1,(wrfE (0,m) (zai 4 p) (frmW r inc i p x y e) 2).2=m1:=⟨_,rfl⟩
 have HX1:Hid (wrfE (0,m) (zai 4 p) (frmW r inc i p x y e) 2=(E1,m1)):=qj (by rw [←hE1,←hm1])
 have HWT:Hid (m1.waits.length≤m.waits.length+2):=qj (by rw [←hm1];exact zem 2)
 rw [HX1.out]
 clear hE1 hm1
 rintro r1 w7 ⟨rfl,F2,hw7,hs7,hm7⟩
 have HWB:=qj (HWB.out.wrt hs7 hm7)
 have HWS2:Hid (WrS w7 d F2 F2 bf w7 (E1,m1)):=qj (WrS.start hw7.disk hw7.off hw7.row)
 have HB5:=qj (HB5.out.mod hm7 HO5.out)
 have HL7:=qj (HLM.out w7 hm7)
 have HW7:=qj hw7
 have HLM2:Hid (∀V,Mod (fun k=>F2 k∨k=bf) w7 V→LaidF V):=qj fun V hV=>HLM.out V (hm7.trans hV fun k hk=>by
  rcases hk with hk | hk
  ·exact (hw7.sub k hk).imp .inl id
  ·exact .inl (.inr hk))
 clear hw7 hs7 hm7
 go_wp2_with fail
 refine (HRP.out _).mono ?_
 rintro r1 w8 ⟨rfl,rfl⟩
 go_wp2_with fail
 refine (ztD HWB.out HWS2.out HL7.out HLM2.out q HPQ.out.2 (some ⟨g5,o5,none⟩) c5 x y k HB5.out HSE.out.2 (by have h1:=HFW.out;have h2:=HWT.out;omega)).mono ?_
 rintro r1 w8 ⟨rfl,F3,hw8,hs8,hm8⟩
 have HW8:=qj hw8
 clear hw8 hs8 hm8
 go_wp2_with fail
 go_ret
 rw [HX1.out]
 refine ⟨rfl,?_⟩
 have h7:=HW7.out
 have h8:=HW8.out
 have hx6:=HX6.out
 have hb:=HBF.out
 have hz7:=h7.mod.size
 have hz6:=hx6.size
 refine ⟨h8.disk.more (fun k hk=>?_) (fun k hk=>?_),((Mod.of_ext (F:=F) hx6).trans h7.mod fun k hk=>?_).trans h8.mod fun k hk=>?_⟩
 ·have hlt:=h8.disk.lt k hk
  rcases h8.sub k hk with h1 | h1
  ·rcases h7.sub k h1 with h2 | h2
   ·exact .inl h2
   ·exact .inr ⟨by omega,hlt⟩
  ·exact .inr ⟨by omega,hlt⟩
 ·rcases hk with hk | hk
  ·have h1:=H.out.2.1.lt k hk
   have h2:=h8.mod.size
   omega
  ·exact hk.2
 ·rcases hk with hk | hk
  ·exact .inl hk
  ·subst hk;exact .inr hb
 ·rcases hk with hk | hk
  ·rcases h7.sub k hk with h2 | h2
   ·exact .inl h2
   ·exact .inr (by omega)
  ·subst hk;exact .inr hb
theorem zsH {w:World} {F:Nat→Prop} {g d s:Nat} {r inc:Int} {m:DM} (h:LogAt w g d r inc s) (hd:zao w d F m) (hg:¬F g) (hL:LaidF w) (hLS:LaidS w) (hLM:∀V,Mod F w V→LaidF V) (hr:0≤r∧r≤6) (hc:1≤inc∧inc≤1099511627776) (hs:s≤1099511627752)
 (i x y:Int) (e:Ent) (hok:e.ok<256) (hfew:m.waits.length+20≤1000000) :
 Calls Tryz.prog 9 #[aD g 0,i,.agg #[x,y],.agg e] w fun r' w'=>r'=.returned (.int .i64 (m.putA s r inc i x y e).1)∧Step d F w (m.putA s r inc i x y e).2 w':=by
 by_cases h0:putE m s i x y e=0
 ·have hq:m.putA s r inc i x y e=m.putW r inc i x y e:=if_pos h0
  rw [hq]
  obtain ⟨hl,hv,hu⟩:((s:Int)+1≤i∧i≤(s:Int)+24)∧(balE x y=true∧enOk e=true)∧m.up=true:=by
   unfold putE at h0
   split at h0
   ·cases h0
   ·rename_i h1
    split at h0
    ·cases h0
    ·rename_i h2
     split at h0
     ·cases h0
     ·rename_i h3
      exact ⟨Decidable.not_not.1 h1,Decidable.not_not.1 h2,by simpa using h3⟩
  obtain ⟨n,rfl⟩:=Int.eq_ofNat_of_zero_le (show 0≤i by omega)
  obtain ⟨q,hpq,hq24⟩:=zcT (i:=(n:Int))
  obtain ⟨k,hk⟩:∃k:Nat,m.nextW r n=(k:Int)∧k<2:=by
   rcases zfF m r n with e | e
   ·exact ⟨0,by rw [e];rfl,by omega⟩
   ·exact ⟨1,by rw [e];rfl,by omega⟩
  have hp48:2 * q+k<48:=by omega
  have hm3:=zqy (r:=r) (inc:=inc) (i:=(n:Int)) hr (by omega) hc hq24
  have hm4:=zqB (r:=r) (inc:=inc) (i:=(n:Int)) hr (by omega) hc hp48
  have h4:=zmj (x:=x) (y:=y) hm4 hv.2
  have h3:=zmr (x:=x) (y:=y) (k:=k) hm3
  have hl4:(frmW r inc n ((2 * q+k:Nat):Int) x y e).length=128:=by unfold frmW;rw [(zbd h4).1];rfl
  have hl3:(recW r inc n (q:Int) x y (k:Int)).length=64:=by unfold recW;rw [(zbd h3).1];rfl
  have hput:m.putW r inc n x y e=wrfE (wrfE (0,m) (zai 4 ((2 * q+k:Nat):Int)) (frmW r inc n ((2 * q+k:Nat):Int) x y e) 2) (zai 3 (q:Int)) (recW r inc n (q:Int) x y (k:Int)) 1:=by
   have he:((2 * q+k:Nat):Int)=2 * (q:Int)+(k:Int):=by omega
   unfold DM.putW
   rw [hpq,hk.1,←zhy (by rw [←he];exact hl4) hl3,he]
   rfl
  rw [hput]
  have hke:zdK s (n:Int)=0:=if_pos hl
  have hue:upE m=0:=if_pos hu
  have hpe:pR x y e=0:=zif hv.1 hv.2
  have hpl:pL x y e=zbb x y e:=zjN hv.1 hv.2
  have hk01:(k:Int)=0∨(k:Int)=1:=by omega
  rw [zcZ] at h3
  refine zoS (m.recM r (zax (n:Int))) (m.copM r (2 * zax (n:Int))) (m.copM r (2 * zax (n:Int)+1)) h hd hg hL hLS hLM (fun V hV=>?_) (fun V hV=>?_) (fun V hV=>?_) (fun V hV=>zlu (h.ext hV) (hd.ext hV) (hL.ext hV) (hLS.ext hV) n (by omega) (by omega) (by omega)) (fun V=>?_) (fun V hV=>?_) (fun V=>?_) (fun V=>?_) hp48 hq24 h4 h3 hfew
  ·have:=zfN (h.ext hV) (by omega) (n:Int)
   rwa [hke] at this
  ·have:=zcp (h.ext hV) (hd.ext hV)
   rwa [hue] at this
  ·have:=zeW x y e.k e.cl e.sq e.ok e.key e.old e.val V (hL.ext hV).a.o hok
   rw [hpe,hpl] at this
   exact this
  ·rw [←hk.1]
   exact zty (m.recM r (zax (n:Int))) (m.copM r (2 * zax (n:Int))) (m.copM r (2 * zax (n:Int)+1)) (n:Int) V (znI _ _ _) (zgG _ _ _) (zgG _ _ _) (zgA _ _ _)
  ·have hrb:recB x y (k:Int)=true:=zcm.2 ⟨zbr.1 hv.1,hk01⟩
   have hrr:=zcm.1 hrb
   obtain ⟨a,rfl⟩:=Int.eq_ofNat_of_zero_le (show 0≤x by omega)
   obtain ⟨b,rfl⟩:=Int.eq_ofNat_of_zero_le (show 0≤y by omega)
   exact zlT a b k V (hLS.ext hV) hrb
  ·have:=zdf n (k:Int) hk01 (by omega) (by omega) V
   rw [hpq] at this
   rwa [show ((2 * q+k:Nat):Int)=2 * (q:Int)+(k:Int) by omega]
  ·have:=zcK n (by omega) (by omega) V
   rwa [hpq] at this
 ·have hq:m.putA s r inc i x y e=(putE m s i x y e,m):=if_neg h0
  rw [hq]
  exact (zts (some ⟨g,0,none⟩) i x y e (zdK s i) (upE m) _ (zsw m s i x y e) h0 hL.a.o hok (fun V hV=>zfN (h.ext hV) (by omega) i) (fun V hV=>zcp (h.ext hV) (hd.ext hV))).mono fun r' w' hh=>⟨hh.1,Step.of_ext hd hh.2⟩
end
theorem zvf {w:World} (p:Option Addr) (z r c s:Int) (hs:∀V,Ext w V→(cQ 22 #[.pointer p] V z:Prop)) (hz:z=0) :
 (cL 7 #[.pointer p,r,c,s] w (.tuple #[.pointer none,.int .i64 1]):Prop):=by
 have HS:=qj hs
 clear hs
 subst hz
 go_enter Tryz.func7,Tryz.ntmps7
 go_wp2_with fail
 refine (HS.out _ (Ext.refl w)).mono ?_
 rintro e w1 ⟨rfl,rfl⟩
 go_wp2_with fail
 go_ret2
 exact ⟨rfl,Ext.refl w⟩
theorem zsl {w:World} (p:Option Addr) (z r c s:Int) (hs:∀V,Ext w V→(cQ 22 #[.pointer p] V z:Prop)) (hL:LaidF w) (hz:¬z=0) (h6:z<156) :
 (cL 7 #[.pointer p,r,c,s] w (.tuple Zk.l):Prop):=by
 have HS:=qj hs
 have HL:=qj hL
 clear hs hL
 go_enter Tryz.func7,Tryz.ntmps7
 go_wp2_with fail
 refine (HS.out _ (Ext.refl w)).mono ?_
 rintro e w1 ⟨rfl,rfl⟩
 go_wp2_with fail
 refine (HS.out _ (Ext.refl w)).mono ?_
 rintro e w1 ⟨rfl,rfl⟩
 go_wp2_with fail
 refine (zeB _ HL.out.a.t).mono ?_
 rintro e w1 ⟨rfl,hx⟩
 have HX:=qj hx
 clear hx
 go_wp2_with fail
 go_ret2
 exact ⟨rfl,HX.out⟩
theorem zsm {w:World} (p:Option Addr) (z r c s:Int) (hs:∀V,Ext w V→(cQ 22 #[.pointer p] V z:Prop)) (hL:LaidF w)  (h6:¬z<156) (hi0:inI 0 r 6=false) :
 (cL 7 #[.pointer p,r,c,s] w (.tuple Zk.l):Prop):=by
 have HS:=qj hs
 have HL:=qj hL
 have HI0:Hid (∀V,(cQ 24 #[.int .i64 0,r,.int .i64 6] V (.bool false):Prop)):=qj fun V=>by rw [←hi0];exact zaA _ _ _ V
 clear hs hL hi0
 go_enter Tryz.func7,Tryz.ntmps7
 go_wp2_with fail
 refine (HS.out _ (Ext.refl w)).mono ?_
 rintro e w1 ⟨rfl,rfl⟩
 go_wp2_with fail
 refine (HS.out _ (Ext.refl w)).mono ?_
 rintro e w1 ⟨rfl,rfl⟩
 go_wp2_with fail
 refine (zeB _ HL.out.a.t).mono ?_
 rintro e w1 ⟨rfl,hx⟩
 have HX:=qj hx
 clear hx
 go_wp2_with fail
 refine (HI0.out _).mono ?_
 rintro e w2 ⟨rfl,rfl⟩
 go_wp2_with fail
 go_ret2
 exact ⟨rfl,HX.out⟩
theorem ztr {w:World} (p:Option Addr) (z r c s:Int) (hs:∀V,Ext w V→(cQ 22 #[.pointer p] V z:Prop)) (hL:LaidF w)  (h6:¬z<156) (hi0:inI 0 r 6=true) (hi1:inI 1 c 1099511627776=false) :
 (cL 7 #[.pointer p,r,c,s] w (.tuple Zk.l):Prop):=by
 have HS:=qj hs
 have HL:=qj hL
 have HI0:Hid (∀V,(cQ 24 #[.int .i64 0,r,.int .i64 6] V (.bool true):Prop)):=qj fun V=>by rw [←hi0];exact zaA _ _ _ V
 have HI1:Hid (∀V,(cQ 24 #[.int .i64 1,c,.int .i64 1099511627776] V (.bool false):Prop)):=qj fun V=>by rw [←hi1];exact zaA _ _ _ V
 clear hs hL hi0 hi1
 go_enter Tryz.func7,Tryz.ntmps7
 go_wp2_with fail
 refine (HS.out _ (Ext.refl w)).mono ?_
 rintro e w1 ⟨rfl,rfl⟩
 go_wp2_with fail
 refine (HS.out _ (Ext.refl w)).mono ?_
 rintro e w1 ⟨rfl,rfl⟩
 go_wp2_with fail
 refine (zeB _ HL.out.a.t).mono ?_
 rintro e w1 ⟨rfl,hx⟩
 have HX:=qj hx
 clear hx
 go_wp2_with fail
 refine (HI0.out _).mono ?_
 rintro e w2 ⟨rfl,rfl⟩
 go_wp2_with fail
 refine (HI1.out _).mono ?_
 rintro e w2 ⟨rfl,rfl⟩
 go_wp2_with fail
 go_ret2
 exact ⟨rfl,HX.out⟩
theorem zsE {w:World} (p:Option Addr) (z r c s:Int) (hs:∀V,Ext w V→(cQ 22 #[.pointer p] V z:Prop)) (hL:LaidF w)  (h6:¬z<156) (hi0:inI 0 r 6=true) (hi1:inI 1 c 1099511627776=true) (hi2:inI 0 s 1099511627752=false) :
 (cL 7 #[.pointer p,r,c,s] w (.tuple Zk.l):Prop):=by
 have HS:=qj hs
 have HL:=qj hL
 have HI0:Hid (∀V,(cQ 24 #[.int .i64 0,r,.int .i64 6] V (.bool true):Prop)):=qj fun V=>by rw [←hi0];exact zaA _ _ _ V
 have HI1:Hid (∀V,(cQ 24 #[.int .i64 1,c,.int .i64 1099511627776] V (.bool true):Prop)):=qj fun V=>by rw [←hi1];exact zaA _ _ _ V
 have HI2:Hid (∀V,(cQ 24 #[.int .i64 0,s,.int .i64 1099511627752] V (.bool false):Prop)):=qj fun V=>by rw [←hi2];exact zaA _ _ _ V
 clear hs hL hi0 hi1 hi2
 go_enter Tryz.func7,Tryz.ntmps7
 go_wp2_with fail
 refine (HS.out _ (Ext.refl w)).mono ?_
 rintro e w1 ⟨rfl,rfl⟩
 go_wp2_with fail
 refine (HS.out _ (Ext.refl w)).mono ?_
 rintro e w1 ⟨rfl,rfl⟩
 go_wp2_with fail
 refine (zeB _ HL.out.a.t).mono ?_
 rintro e w1 ⟨rfl,hx⟩
 have HX:=qj hx
 clear hx
 go_wp2_with fail
 refine (HI0.out _).mono ?_
 rintro e w2 ⟨rfl,rfl⟩
 go_wp2_with fail
 refine (HI1.out _).mono ?_
 rintro e w2 ⟨rfl,rfl⟩
 go_wp2_with fail
 refine (HI2.out _).mono ?_
 rintro e w2 ⟨rfl,rfl⟩
 go_wp2_with fail
 go_ret2
 exact ⟨rfl,HX.out⟩
theorem zsz {w:World} (p:Option Addr) (z r c s:Int) (hs:∀V,Ext w V→(cQ 22 #[.pointer p] V z:Prop)) (hL:LaidF w)  (h6:¬z<156) (hi0:inI 0 r 6=true) (hi1:inI 1 c 1099511627776=true) (hi2:inI 0 s 1099511627752=true) (hu:∀V,Ext w V→(cQ 25 #[.pointer p] V (.bool false):Prop)) :
 (cL 7 #[.pointer p,r,c,s] w (.tuple #[.pointer none,.int .i64 5]):Prop):=by
 have HS:=qj hs
 have HL:=qj hL
 have HI0:Hid (∀V,(cQ 24 #[.int .i64 0,r,.int .i64 6] V (.bool true):Prop)):=qj fun V=>by rw [←hi0];exact zaA _ _ _ V
 have HI1:Hid (∀V,(cQ 24 #[.int .i64 1,c,.int .i64 1099511627776] V (.bool true):Prop)):=qj fun V=>by rw [←hi1];exact zaA _ _ _ V
 have HI2:Hid (∀V,(cQ 24 #[.int .i64 0,s,.int .i64 1099511627752] V (.bool true):Prop)):=qj fun V=>by rw [←hi2];exact zaA _ _ _ V
 have HU:=qj hu
 clear hs hL hi0 hi1 hi2 hu
 go_enter Tryz.func7,Tryz.ntmps7
 go_wp2_with fail
 refine (HS.out _ (Ext.refl w)).mono ?_
 rintro e w1 ⟨rfl,rfl⟩
 go_wp2_with fail
 refine (HS.out _ (Ext.refl w)).mono ?_
 rintro e w1 ⟨rfl,rfl⟩
 go_wp2_with fail
 refine (zeB _ HL.out.a.t).mono ?_
 rintro e w1 ⟨rfl,hx⟩
 have HX:=qj hx
 clear hx
 go_wp2_with fail
 refine (HI0.out _).mono ?_
 rintro e w2 ⟨rfl,rfl⟩
 go_wp2_with fail
 refine (HI1.out _).mono ?_
 rintro e w2 ⟨rfl,rfl⟩
 go_wp2_with fail
 refine (HI2.out _).mono ?_
 rintro e w2 ⟨rfl,rfl⟩
 go_wp2_with fail
 refine (HU.out _ HX.out).mono ?_
 rintro e w2 ⟨rfl,rfl⟩
 go_wp2_with fail
 go_ret2
 exact ⟨rfl,HX.out⟩
theorem zsN {w:World} (p:Option Addr) (z r c s:Int) (hs:∀V,Ext w V→(cQ 22 #[.pointer p] V z:Prop)) (hL:LaidF w)  (h6:¬z<156) (hi0:inI 0 r 6=true) (hi1:inI 1 c 1099511627776=true) (hi2:inI 0 s 1099511627752=true) (hu:∀V,Ext w V→(cQ 25 #[.pointer p] V (.bool true):Prop)) :
 Calls Tryz.prog 7 #[.pointer p,r,c,s] w fun e w'=>∃g,e=.returned (.tuple #[aD g 0,.int .i64 0])∧w'.heap[g]?=some (.cells #[aD g 0,.pointer p,r,c,s] 83 (0,0))∧w.heap.size≤g∧Ext w w':=by
 have HS:=qj hs
 have HL:=qj hL
 have HI0:Hid (∀V,(cQ 24 #[.int .i64 0,r,.int .i64 6] V (.bool true):Prop)):=qj fun V=>by rw [←hi0];exact zaA _ _ _ V
 have HI1:Hid (∀V,(cQ 24 #[.int .i64 1,c,.int .i64 1099511627776] V (.bool true):Prop)):=qj fun V=>by rw [←hi1];exact zaA _ _ _ V
 have HI2:Hid (∀V,(cQ 24 #[.int .i64 0,s,.int .i64 1099511627752] V (.bool true):Prop)):=qj fun V=>by rw [←hi2];exact zaA _ _ _ V
 have HU:=qj hu
 clear hs hL hi0 hi1 hi2 hu
 go_enter Tryz.func7,Tryz.ntmps7
 go_wp2_with fail
 refine (HS.out _ (Ext.refl w)).mono ?_
 rintro e w1 ⟨rfl,rfl⟩
 go_wp2_with fail
 refine (HS.out _ (Ext.refl w)).mono ?_
 rintro e w1 ⟨rfl,rfl⟩
 go_wp2_with fail
 refine (zeB _ HL.out.a.t).mono ?_
 rintro e w1 ⟨rfl,hx⟩
 have HX:=qj hx
 clear hx
 go_wp2_with fail
 refine (HI0.out _).mono ?_
 rintro e w2 ⟨rfl,rfl⟩
 go_wp2_with fail
 refine (HI1.out _).mono ?_
 rintro e w2 ⟨rfl,rfl⟩
 go_wp2_with fail
 refine (HI2.out _).mono ?_
 rintro e w2 ⟨rfl,rfl⟩
 go_wp2_with fail
 refine (HU.out _ HX.out).mono ?_
 rintro e w2 ⟨rfl,rfl⟩
 go_wp2_with fail
 go_ret2
 exact ⟨w1.heap.size,rfl,heap_alloc_new w1 _,HX.out.size,HX.out.alloc _⟩
def openE (m:DM) (r c s:Int):Int:=if m.size<156 then 2 else if inI 0 r 6=false then 2 else if inI 1 c 1099511627776=false then 2 else if inI 0 s 1099511627752=false then 2 else if m.up=false then 5 else 0
section
variable {w:World} {d:Nat} {F:Nat→Prop} {m:DM}
theorem zlg (h:zao w d F m) (hL:LaidF w) (r c s:Int) (hE:openE m r c s≠0) :
 (cL 7 #[aD d 0,r,c,s] w (.tuple #[.pointer none,.int .i64 (openE m r c s)]):Prop):=by
 have hs:∀V,Ext w V→(cQ 22 #[aD d 0] V (.int .i64 (m.size:Nat)):Prop):=fun V hV=>znD (h.ext hV)
 have hz:¬((m.size:Nat):Int)=0:=by
  obtain ⟨g,pv,hp,_,_⟩:=h
  have:=hp.n1
  omega
 have hu:∀b,m.up=b→∀V,Ext w V→(cQ 25 #[aD d 0] V (.bool b):Prop):=fun b hb V hV=>by rw [←hb];exact zqN (h.ext hV)
 unfold openE at hE ⊢
 by_cases h6:m.size<156
 ·rw [if_pos h6]
  exact zsl _ _ r c s hs hL hz (by omega)
 rw [if_neg h6] at hE ⊢
 have h6':¬((m.size:Nat):Int)<156:=by omega
 cases h0:inI 0 r 6 with
 | false=>exact zsm _ _ r c s hs hL h6' h0
 | true =>
  cases h1:inI 1 c 1099511627776 with
  | false=>exact ztr _ _ r c s hs hL h6' h0 h1
  | true =>
   cases h2:inI 0 s 1099511627752 with
   | false=>exact zsE _ _ r c s hs hL h6' h0 h1 h2
   | true =>
    cases h3:m.up with
    | false=>exact zsz _ _ r c s hs hL h6' h0 h1 h2 (hu _ h3)
    | true=>rw [h0,h1,h2,h3] at hE;exact absurd rfl hE
theorem zdB {m:DM} {r c s:Int} (h:openE m r c s=0):156≤m.size∧(0≤r∧r≤6)∧(1≤c∧c≤1099511627776)∧(0≤s∧s≤1099511627752)∧m.up=true:=by
 unfold openE inI at h
 split at h
 ·cases h
 ·split at h
  ·cases h
  ·split at h
   ·cases h
   ·split at h
    ·cases h
    ·split at h
     ·cases h
     ·rename_i h1 h2 h3 h4 h5
      simp at h2 h3 h4 h5
      exact ⟨by omega,h2,h3,h4,h5⟩
theorem ziD (h:zao w d F m) (hL:LaidF w) (r c s:Int) (hE:openE m r c s=0) :
 Calls Tryz.prog 7 #[aD d 0,r,c,s] w fun e w'=>∃g,e=.returned (.tuple #[aD g 0,.int .i64 0])∧LogAt w' g d r c s.toNat∧w.heap.size≤g∧Ext w w':=by
 obtain ⟨h6,hr,hc,hs',hu⟩:=zdB hE
 refine (zsN (some ⟨d,0,none⟩) (m.size:Nat) r c s (fun V hV=>znD (h.ext hV)) hL (by omega) (by unfold inI;simp [hr]) (by unfold inI;simp [hc]) (by unfold inI;simp [hs']) (fun V hV=>by rw [←hu];exact zqN (h.ext hV))).mono fun e w' ⟨g,he,hr,hg,hx⟩=>⟨g,he,⟨?_⟩,hg,hx⟩
 rw [Int.toNat_of_nonneg hs'.1]
 exact hr
end
structure LD (w0 w:World) (d:Nat) (F:Nat→Prop) (g s:Nat) (r inc:Int) (m:DM):Prop where
 dk:DK w0 w d F m
 log:LogAt w g d r inc s
 off:¬F g
 low:w0.heap.size≤g
section
variable {w0 w w':World} {d:Nat} {F:Nat→Prop} {g s:Nat} {r inc:Int} {m m':DM}
theorem LD.ext (h:LD w0 w d F g s r inc m) (k:Ext w w'):LD w0 w' d F g s r inc m:=⟨h.dk.ext k,h.log.ext k,h.off,h.low⟩
theorem LD.laid (h:LD w0 w d F g s r inc m) (hL:LaidF w0):LaidF w:=hL.ext h.dk.bel
theorem LD.laidS (h:LD w0 w d F g s r inc m) (hL:LaidS w0):LaidS w:=hL.ext h.dk.bel
theorem LD.lm (h:LD w0 w d F g s r inc m) (hL:LaidF w0):∀V,Mod F w V→LaidF V:=fun _ hV=>hL.ext (Below.mod h.dk.bel hV h.dk.bel.size h.dk.low)
theorem zno (h:LD w0 w d F g s r inc m):(cQ 13 #[aD g 0] w (.int .i64 (s:Int)):Prop):=zqf h.log
theorem zuG (h:LD w0 w d F g s r inc m) (hL:LaidF w0) (hLS:LaidS w0) (hs:s≤1099511627752) (i:Int) (hfew:m.waits.length≤1000000) (R:Rpt) (E:Int) (hR:m.lkR s r i=R) (hE:m.lkE s i=E) :
 (cL 54 #[aD g 0,.int .i64 i] w (.tuple #[.agg R,.int .i64 E]):Prop):=by
 subst hR hE
 exact zto h.log h.dk.disk (h.laid hL) (h.laidS hLS) (by omega) i hfew
theorem zqE (h:LD w0 w d F g s r inc m) (hL:LaidF w0) (hLS:LaidS w0) (hs:s≤1099511627752) (i:Int) (hfew:m.waits.length≤1000000) (C:Nat) (E:Int) (hC:m.lkC s r i=C) (hE:m.lkE s i=E) :
 (cL 55 #[aD g 0,.int .i64 i] w (.tuple #[C,.int .i64 E]):Prop):=by
 subst hC hE
 exact zpu h.log h.dk.disk (h.laid hL) (h.laidS hLS) (by omega) i hfew
end
structure RLogAt (w:World) (y d:Nat) (r inc:Int) (s:Nat):Prop where
 row:w.heap[y]?=some (.cells #[.pointer (some ⟨d,0,none⟩),.int .i64 r,.int .i64 inc,.int .i64 (s:Int)] 59 (0,0))
section
variable {w w':World} {y d:Nat} {r inc:Int} {s:Nat}
theorem RLogAt.lt (h:RLogAt w y d r inc s):y<w.heap.size:=(Array.getElem?_eq_some_iff.1 h.row).1
theorem RLogAt.ext (h:RLogAt w y d r inc s) (hx:Ext w w'):RLogAt w' y d r inc s:=⟨(hx.block y h.lt).trans h.row⟩
theorem RLogAt.mod {F:Nat→Prop} (h:RLogAt w y d r inc s) (hm:Mod F w w') (hF:¬F y):RLogAt w' y d r inc s:=⟨zah h.row hm hF⟩
theorem RLogAt.cells (h:RLogAt w y d r inc s):(CW.mk w y [aD d 0,r,inc,.int .i64 s]:Prop) :=
 ⟨cell_of_row w y 0 _ _ _ h.row,cell_of_row w y 1 _ _ _ h.row,cell_of_row w y 2 _ _ _ h.row,cell_of_row w y 3 _ _ _ h.row⟩
theorem zfq (h:RLogAt w y d r inc s) (hs:s≤1099511627752) (i:Int) :
 (cQ 38 #[aD y 0,.int .i64 i] w (.bool (decide ((s:Int)+1≤i∧i≤(s:Int)+24))):Prop):=by
 obtain ⟨_,_,_,c3⟩:=h.cells
 obtain ⟨b,hb⟩:∃b,decide ((s:Int)+1≤i∧i≤(s:Int)+24)=b:=⟨_,rfl⟩
 rw [hb]
 have HB:=qj hb
 have hs':(s:Int)≤1099511627752:=by omega
 clear h hb
 by_cases h1:(s:Int)<i
 ·have HQ:Hid (decide (i≤(s:Int)+24)=b):=qj (by rw [←HB.out,decide_eq_decide];omega)
  go_enter Tryz.func38,Tryz.ntmps38
  go_wp2_with fail
  go_ret
  exact ⟨by rw [←HQ.out];rfl,rfl⟩
 ·have hb:b=false:=by rw [←HB.out];exact decide_eq_false (by omega)
  subst hb
  go_enter Tryz.func38,Tryz.ntmps38
  go_wp2_with fail
  go_ret
  exact ⟨rfl,rfl⟩
end
theorem zeJ {w:World} {b:Nat} {a0 a1 a2 a3 a4 b0 b1 b2 b3 b4:Value} {t:TypeId} (h:w.heap[b]?=some (.cells #[b0,b1,b2,b3,b4] t (0,0))) :
 ((SW.mk w b [a0,a1,a2,a3,a4]:World)).heap[b]?=some (.cells #[a0,a1,a2,a3,a4] t (0,0)) :=
 zae 4 (zae 3 (zae 2 (zae 1 (zae 0 h a0 rfl) a1 rfl) a2 rfl) a3 rfl) a4 rfl
theorem zez {u w:World} {b:Nat} (h:Ext u w) (hb:u.heap.size≤b) (a0 a1 a2 a3 a4:Value) :
 Ext u ((SW.mk w b [a0,a1,a2,a3,a4]:World)) :=
 ((((h.setCell (p:=⟨b,0,none⟩) hb a0).setCell (p:=⟨b,1,none⟩) hb a1).setCell (p:=⟨b,2,none⟩) hb a2).setCell (p:=⟨b,3,none⟩) hb a3).setCell (p:=⟨b,4,none⟩) hb a4
theorem zfU {w:World} {b:Nat} (a0 a1 a2 a3 a4:Value):Mod (fun k=>k=b) w ((SW.mk w b [a0,a1,a2,a3,a4]:World)) :=
 (((((Mod.refl (fun k=>k=b) w).setCell (p:=⟨b,0,none⟩) (.inl rfl) a0).setCell (p:=⟨b,1,none⟩) (.inl rfl) a1).setCell (p:=⟨b,2,none⟩) (.inl rfl) a2).setCell (p:=⟨b,3,none⟩) (.inl rfl) a3).setCell (p:=⟨b,4,none⟩) (.inl rfl) a4
theorem By.modW {F:Nat→Prop} {w w':World} {A:Option Addr} {n cp:Nat} {l:List Nat} (h:By w A n cp l) (k:Mod F w w') (ho:0<n→∀g o,A=some ⟨g,o,none⟩→¬F g):By w' A n cp l:=by
 refine ⟨h.len,h.cap,h.most,⟨h.rd.1,fun hn=>?_⟩,Bs.nil_ h⟩
 obtain ⟨g,o,e,hg,hc⟩:=h.rd.2 hn
 refine ⟨g,o,e,Nat.lt_of_lt_of_le hg k.size,fun j x hx=>?_⟩
 have hlt:0<n:=by
  have:=h.len
  have:=(List.getElem?_eq_some_iff.1 hx).1
  omega
 exact (World.cell?_of_block (a:=⟨g,o+j,none⟩) (k.block g hg (ho hlt g o e))).trans (hc j x hx)
def RAtW (L:List Nat) (r rg pl:Int) (w:World) (e:Ending) (w':World):Prop:=∃A N c,e=.returned (.tuple #[.int .u8 (stM L r rg pl:Nat),.agg #[.int .i64 (mfl L r rg pl 0:Nat),.int .i64 (mfl L r rg pl 1:Nat),.int .i64 (mfl L r rg pl 2:Nat),.int .i64 (mfl L r rg pl 3:Nat),.int .i64 (mfl L r rg pl 4:Nat)],.slice A N c])∧By w' A N c (mbl L r rg pl)∧(∀g o,A=some ⟨g,o,none⟩→0<N→w.heap.size≤g)∧Ext w w'
theorem RAtW.none_ {r rg pl:Int} {w w':World} (hx:Ext w w'):RAtW [] r rg pl w (.returned (.tuple #[.int .u8 2,.agg Zk.c,.slice none 0 0])) w':=by
 obtain ⟨h1,h2,h3⟩:=znj r rg pl
 refine ⟨none,0,0,?_,?_,fun _ _ e=>(by cases e),hx⟩
 ·rw [h1,h2,h2,h2,h2,h2];rfl
 ·rw [h3];exact By.nil_ _
theorem znC {w:World} {y d:Nat} {r inc:Int} {s:Nat} {q:Nat→Nat} {m:DM} (h:RLogAt w y d r inc s) (hd:RD w d q m) (rg pl:Int) (W:Nat) (hW:wid rg=(W:Int)) (hW2:W≤2) (hS0:0≤zai rg pl) (hfb:zai rg pl≤300) (hfew:m.waits.length≤1000000) :
 Calls Tryz.prog 80 #[aD y 0,.int .i64 rg,.int .i64 pl] w (RAtW (m.plcL (zai rg pl) W) r rg pl w):=by
 obtain ⟨i0,hi,hz0,hz1,hz2⟩:=info_parts zay
 have hok0:m.Ok:=(zny hd).2.2
 have HOK:=qj hok0
 have HD:=qj hd
 have H:=qj h
 have HFW:=qj hfew
 have HWI:=qj (fun V=>zeH rg V)
 rw [hW] at HWI
 have HFI:=qj (fun V=>zhi rg pl V)
 obtain ⟨S,hSS⟩:∃S,zai rg pl=S:=⟨_,rfl⟩
 rw [hSS] at hS0 hfb HFI ⊢
 have hfail:∀j:Nat,j<W→(m.read (S+(j:Int))).2≠0→m.plcL S W=[]:=fun j hj hne=>by
  unfold DM.plcL
  rw [if_pos (by unfold DM.gotB;exact ziI.2 ⟨_,by simpa using hne,by omega,by omega⟩)]
 have hgood:m.gotB S W=false→m.plcL S W=m.gotL S W:=fun hh=>by
  unfold DM.plcL
  rw [if_neg (by rw [hh];simp)]
 have HFAIL:=qj hfail
 have HGOOD:=qj hgood
 obtain ⟨L0,hL0⟩:∃L0,m.plcL S W=L0:=⟨_,rfl⟩
 rw [hL0] at HFAIL HGOOD ⊢
 have NO:Hid (L0=[]→∀w',Ext w w'→RAtW L0 r rg pl w (.returned (.tuple #[.int .u8 2,.agg Zk.c,.slice none 0 0])) w'):=qj fun h w' hx=>by rw [h];exact RAtW.none_ hx
 have HR0:=qj (heap_alloc_new w (.cells Zk.c 44))
 have HE0:=qj ((Ext.refl w).alloc (.cells Zk.c 44))
 have hlt0:w.heap.size<(w.alloc (.cells Zk.c 44)).heap.size:=by simp
 have HL0:=qj hlt0
 clear h hd hfew hfail hgood hok0 hW hSS hL0 hlt0
 go_enter Tryz.func80,Tryz.ntmps80
 go_upto_region 1 with (fail)
 generalize (w.alloc (.cells Zk.c 44))=W0 at *
 go_wp2_with fail
 go_loopw [9,10] (fun v i wr=>∃(j na:Nat) (Aa:Option Addr) (ca:Nat),j≤W∧na≤64 * j∧i=.int .i64 (j:Int)∧v=.slice Aa na ca∧Hid (wr.ownsRow W0.heap.size 5 1 (.slice Aa na ca) na (vb (m.gotL S j)))∧Hid (Ext W0 wr)∧Hid (∀b∈m.gotL S j,b<256)∧Hid (m.gotB S j=false)) (fun _ i _=>W-(intOf i).toNat)
 case atStart=>exact ⟨0,0,none,0,by omega,by omega,by simp,rfl,qj (World.ownsRow_nil _ _ _ _),qj (Ext.refl _),qj (fun b hb=>by simp [DM.gotL] at hb),qj rfl⟩
 case round =>
  obtain ⟨j,na,Aa,ca,hj,hna,rfl,rfl,HO,HX,HB,HLO⟩:=hrel
  have HRb:=qj ((HX.out.block _ HL0.out).trans HR0.out)
  by_cases hlt:j<W
  ·have hlt':(j:Int)<(W:Int):=by omega
   have hn:=zdX HOK.out (S+(j:Int))
   have hm:(m.gotL S (j+1))=m.gotL S j++(m.read (S+(j:Int))).1:=rfl
   have HM:=qj hm
   have HN:=qj hn
   have hlo:(m.read (S+(j:Int))).2=0→m.gotB S (j+1)=false:=fun h0=>by
    have:=zcO (fun s=>decide ((m.read s).2≠0)) S j
    have h2:zfg (fun s=>decide ((m.read s).2≠0)) S j=false:=HLO.out
    unfold DM.gotB
    rw [this,h2]
    simp [h0]
   have HLO2:=qj hlo
   have HANY:=qj (HFAIL.out j hlt)
   have HXw:=qj (HE0.out.trans HX.out)
   have hS1:wr.drew.cell? (aD y 0)=some (.pointer (some ⟨d,0,none⟩)):=(H.out.ext HXw.out.drew).cells.1
   have hrd:=znJ (HD.out.ext HXw.out.drew) (S+(j:Int)) (by omega) HFW.out
   have HRD:Hid (Calls Tryz.prog 134 #[aD d 0,.int .i64 (IntKind.i64.wrap (S+(j:Int)))] wr.drew fun e w'=>∃A n c,e=.returned (.tuple #[.slice A n c,.int .i64 (m.read (S+(j:Int))).2])∧By w' A n c (m.read (S+(j:Int))).1∧Ext wr.drew w'):=qj (by
    rw [show IntKind.i64.wrap (S+(j:Int))=S+(j:Int) by rw [IntKind.wrap_i64];omega]
    exact hrd)
   clear hrd
   clear hm hn hlo
   generalize m.gotL S j=L at *
   generalize (m.read (S+(j:Int))).1=L2 at *
   generalize (m.read (S+(j:Int))).2=E2 at *
   go_wp2_with fail
   refine (HWI.out _).mono ?_
   rintro e w1 ⟨rfl,rfl⟩
   go_wp2_with fail
   go_region_held3 (fun w'=>w'.cell? (aD y 0)=some (.pointer (some ⟨d,0,none⟩)))
    (first | with_reducible exact hS1 | with_reducible exact hS3)
    (first
     | (go_at_call 85;((with_reducible refine (HFI.out _).mono ?_);rintro e w4 ⟨rfl,rfl⟩))
     | (go_at_call 134;((with_reducible refine HRD.out.mono ?_);rintro e w3 ⟨A2,n2,c2,rfl,hby,hx⟩;have hS3:=zaq hx hS1;have HX3:Hid (Ext wr w3):=qj (Ext.trans (Below.drew (Ext.refl wr)) hx);have HBY:=qj hby;clear hx hby)))
   obtain rfl:n2=L2.length:=HBY.out.len.symm
   have HO3:=qj (zas HO.out (Mod.of_ext (F:=fun _=>False) HX3.out) fun _ _ hf=>hf)
   have HX4:Hid (Ext W0 w3):=qj (HX.out.trans HX3.out)
   by_cases h0:E2=0
   ·subst h0
    have hl2:=HN.out.2
    go_wp2_with (at_builtin;refine zak rfl _ _ 45 rfl W0.heap.size 5 i0 Tryz.underlying45 hi hz0 hz1 hz2 _ na (vb L) rfl HO3.out A2 L2.length c2 L2 rfl HBY.out (by omega) (Ext.size HX4.out) ?_)
    intro v2 w2 hown hg
    obtain ⟨hx,A3,c3',rfl,hb2,ho2⟩:=zbL HX4.out HO3.out hg hown HB.out HBY.out.rd.lt
    have HX5:=qj hx
    have HO5:=qj ho2
    have HLT:=qj (Bs.rd hb2).lt
    clear hx hb2 ho2 hown hg
    go_wp2_with fail
    go_roundw
    case rel=>exact ⟨j+1,na+L2.length,A3,c3',by omega,by omega,by go_num,rfl,qj (by rw [HM.out];exact HO5.out),HX5,qj (by rw [HM.out];exact HLT.out),qj (HLO2.out trivial)⟩
    case measure=>simp [intOf];omega
   ·have hne:(E2 != 0)=true:=by simpa using h0
    have HNE:=qj h0
    have hrb:=(HX3.out.block _ (Array.getElem?_eq_some_iff.1 HRb.out).1).trans HRb.out
    obtain ⟨⟨z0,z1,z2,z3,z4⟩,m0,m1,m2,m3,m4⟩:=zac hrb
    have hr2:=zeJ (a0:=.int .i64 0) (a1:=.int .i64 0) (a2:=.int .i64 0) (a3:=.int .i64 0) (a4:=.int .i64 0) hrb
    have hE2:=zez (HE0.out.trans HX4.out) (Nat.le_refl _) (.int .i64 0) (.int .i64 0) (.int .i64 0) (.int .i64 0) (.int .i64 0)
    obtain ⟨⟨t0,t1,t2,t3,t4⟩,_⟩:=zac hr2
    clear h0 hr2
    go_wp2_with fail
    generalize ((SW.mk w3 w.heap.size [.int .i64 0,.int .i64 0,.int .i64 0,.int .i64 0,.int .i64 0]:World))=T at *
    refine bodyPost_ret (v:=.tuple #[.int .u8 2,.agg Zk.c,.slice none 0 0]) (by simp [results,Tryz.results80,go_sem,t0,t1,t2,t3,t4]) rfl ?_
    exact NO.out (HANY.out HNE.out) _ hE2
  ·obtain rfl:j=W:=by omega
   have HXw:=qj (HE0.out.trans HX.out)
   obtain ⟨_,c1,_⟩:=(H.out.ext HXw.out).cells
   have HBY:Hid (By wr Aa na ca (m.gotL S j)):=qj (Bs.of_own HO.out HB.out)
   have hKB:=HGOOD.out HLO.out
   generalize m.gotL S j=L at *
   have HKB:=qj hKB
   clear HFAIL HGOOD hKB HO HB HLO NO
   have HMI:=qj (zoF Aa na ca L r rg pl wr HBY.out)
   go_wp2_with fail
   refine (HWI.out _).mono ?_
   rintro e w1 ⟨rfl,rfl⟩
   go_wp2_with fail
   refine HMI.out.mono ?_
   rintro e w3 ⟨A2,N2,c2,rfl,hb,hfr,hx⟩
   have HX3:=qj (HXw.out.trans hx)
   have hrb:=(hx.block _ (Array.getElem?_eq_some_iff.1 HRb.out).1).trans HRb.out
   obtain ⟨⟨z0,z1,z2,z3,z4⟩,m0,m1,m2,m3,m4⟩:=zac hrb
   have hmod:=zeJ (a0:=.int .i64 (mfl L r rg pl 0:Nat)) (a1:=.int .i64 (mfl L r rg pl 1:Nat)) (a2:=.int .i64 (mfl L r rg pl 2:Nat)) (a3:=.int .i64 (mfl L r rg pl 3:Nat)) (a4:=.int .i64 (mfl L r rg pl 4:Nat)) hrb
   have hE2:=zez HX3.out (Nat.le_refl _) (.int .i64 (mfl L r rg pl 0:Nat)) (.int .i64 (mfl L r rg pl 1:Nat)) (.int .i64 (mfl L r rg pl 2:Nat)) (.int .i64 (mfl L r rg pl 3:Nat)) (.int .i64 (mfl L r rg pl 4:Nat))
   have hB2:=hb.modW (zfU (b:=w.heap.size) (.int .i64 (mfl L r rg pl 0:Nat)) (.int .i64 (mfl L r rg pl 1:Nat)) (.int .i64 (mfl L r rg pl 2:Nat)) (.int .i64 (mfl L r rg pl 3:Nat)) (.int .i64 (mfl L r rg pl 4:Nat))) (fun hn g o e hg=>by
    have h1:=hfr g o e hn
    have h2:=(Array.getElem?_eq_some_iff.1 HRb.out).1
    omega)
   obtain ⟨⟨t0,t1,t2,t3,t4⟩,_⟩:=zac hmod
   have HB2:=qj hB2
   have HFR:=qj (fun g o e hn=>Nat.le_trans HXw.out.size (hfr g o e hn))
   clear hb hfr hx hmod hB2 HMI HBY
   go_wp2_with fail
   generalize ((SW.mk w3 w.heap.size [.int .i64 (mfl L r rg pl 0:Nat),.int .i64 (mfl L r rg pl 1:Nat),.int .i64 (mfl L r rg pl 2:Nat),.int .i64 (mfl L r rg pl 3:Nat),.int .i64 (mfl L r rg pl 4:Nat)]:World))=T at *
   refine bodyPost_ret (v:=.tuple #[.int .u8 (stM L r rg pl:Nat),.agg #[.int .i64 (mfl L r rg pl 0:Nat),.int .i64 (mfl L r rg pl 1:Nat),.int .i64 (mfl L r rg pl 2:Nat),.int .i64 (mfl L r rg pl 3:Nat),.int .i64 (mfl L r rg pl 4:Nat)],.slice A2 N2 c2]) (by simp [results,Tryz.results80,go_sem,t0,t1,t2,t3,t4]) rfl ?_
   rw [HKB.out]
   exact ⟨A2,N2,c2,rfl,HB2.out,HFR.out,hE2⟩
end Go.Proofs.YtdbpdhlecgoclaaGreatDoor
