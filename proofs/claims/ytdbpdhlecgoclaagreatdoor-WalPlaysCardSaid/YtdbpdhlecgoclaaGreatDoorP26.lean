/-
  The contract of open: what the bytes of a place are,or bad where one of its sectors can't be read.
-/
import Derived.Test.YtdbpdhlecgoclaaGreatDoorP00
import Derived.Test.YtdbpdhlecgoclaaGreatDoorP07
import Derived.Test.YtdbpdhlecgoclaaGreatDoorP11
import Derived.Test.YtdbpdhlecgoclaaGreatDoorP15
import Derived.Test.YtdbpdhlecgoclaaGreatDoorP16
import Derived.Test.YtdbpdhlecgoclaaGreatDoorP18
import Derived.Test.YtdbpdhlecgoclaaGreatDoorP19
import Derived.Test.YtdbpdhlecgoclaaGreatDoorP20
import Derived.Test.YtdbpdhlecgoclaaGreatDoorP24
import Derived.Deep.DeepCutAuto
namespace Go.Proofs.YtdbpdhlecgoclaaGreatDoor
set_option maxRecDepth 100000
set_option maxHeartbeats 6400000
open Go Go.RowKit
def DM.gotL (m:DM) (S:Int):Nat→List Nat
 | 0=>[]
 | k+1=>DM.gotL m S k++(m.read (S+(k:Int))).1
def DM.gotB (m:DM) (S:Int) (W:Nat):Bool:=zfg (fun s=>decide ((m.read s).2≠0)) S W
def DM.plcL (m:DM) (S:Int) (W:Nat):List Nat:=if m.gotB S W=true then [] else m.gotL S W
theorem zih {m:DM} {s:Int} (h:(m.read s).2≠0):(m.read s).1=[]:=by
 unfold DM.read at h ⊢
 split at h
 ·rename_i hu;rw [if_pos hu]
 ·rename_i hu
  rw [if_neg hu]
  split at h
  ·rename_i hh;rw [if_pos hh]
  ·rename_i hh
   rw [if_neg hh]
   split at h
   ·exact absurd rfl h
   ·split at h
    ·rename_i hd;rw [if_pos hd]
    ·exact absurd rfl h
theorem zic {m:DM} (hok:m.Ok) {s:Int} (h:(m.read s).2=0):Sect (m.read s).1:=by
 unfold DM.read at h ⊢
 split at h
 ·cases h
 ·rename_i hu
  rw [if_neg hu]
  split at h
  ·cases h
  ·rename_i hh
   rw [if_neg hh]
   split at h
   ·rename_i b hl
    exact (hok.waits _ (zoi hl)).2
   ·split at h
    ·cases h
    ·rename_i hd
     rw [if_neg hd]
     have hlt:=DM.has_lt hh
     rw [List.getD_eq_getElem?_getD,List.getElem?_eq_getElem hlt,Option.getD_some]
     exact hok.rests _ (List.getElem_mem hlt)
theorem zdX {m:DM} (hok:m.Ok) (s:Int):(∀b∈(m.read s).1,b<256)∧(m.read s).1.length≤64:=by
 by_cases h:(m.read s).2=0
 ·have:=zic hok h
  exact ⟨this.2,by rw [this.1];omega⟩
 ·rw [zih h]
  exact ⟨fun b hb=>(by cases hb),by simp⟩
theorem zom {m:DM} (hok:m.Ok) {s:Int}:(m.read s).1=[]↔(m.read s).2≠0:=by
 refine ⟨fun h h0=>?_,zih⟩
 have:=(zic hok h0).1
 rw [h] at this
 cases this
theorem zhL {m:DM} (q:Int):m.plcL (zai 3 q) 1=m.cb 3 q:=by
 unfold DM.plcL DM.gotB DM.cb
 rw [zcO,zhj,Bool.false_or]
 simp only [DM.gotL,List.nil_append,Int.natCast_zero,Int.add_zero]
 by_cases h:(m.read (zai 3 q)).2=0
 ·rw [if_neg (by simp [h])]
 ·rw [if_pos (by simp [h]),zih h]
theorem zhJ {m:DM} (hok:m.Ok) (p:Int):m.plcL (zai 4 p) 2=m.fb p:=by
 unfold DM.plcL DM.gotB DM.fb zql
 rw [zcO,zcO,zhj,Bool.false_or]
 simp only [DM.gotL,List.nil_append,Int.natCast_zero,Int.add_zero,zom hok,Int.natCast_one]
 by_cases h:(m.read (zai 4 p)).2=0 <;> by_cases h1:(m.read (zai 4 p+1)).2=0 <;> simp [h,h1]
theorem znj (r g p:Int):stM [] r g p=2∧(∀k,mfl [] r g p k=0)∧mbl [] r g p=[]:=by
 have hz:szB []=false:=by decide
 have hg:=zfo hz
 refine ⟨zrZ r g p,fun k=>?_,?_⟩
 ·rw [(zeh hg).2.1,zaY hg]
 ·rw [(zeh hg).2.2,zcs hg]
theorem zti {V W:World} {g d s:Nat} {r inc:Int} (k:Hid (Ext V.drew W)) (h:Hid (LogAt V g d r inc s)):W.cell? (aD g 1)=some (.pointer (some ⟨d,0,none⟩)):=(h.out.ext ((Below.drew (Ext.refl V)).trans k.out)).cells.2.1
theorem zoh {w1 w2:World} {B g:Nat} {v:Value} {n:Nat} {l:List Value} {o:Obj} (hB:g<B) (hown:w1.ownsRow B 5 1 v n l) (hg:w1.grownBy w2 v.ownBlock) (h:w1.heap[g]?=some o):w2.heap[g]?=some o:=by
 refine (hg.block _ (Array.getElem?_eq_some_iff.1 h).1 fun e=>?_).trans h
 have:=(hown.lt _ e.symm).1
 omega
theorem zlq {w:World} {g d s:Nat} {r inc:Int} {F:Nat→Prop} {m:DM} (h:LogAt w g d r inc s) (hd:zao w d F m) (hL:LaidF w) (rg p:Int) (hf:0≤zai rg p) (hfew:m.waits.length≤1000000) :
 Calls Tryz.prog 120 #[aD g 0,.int .i64 rg,.int .i64 p] w fun e w'=>∃A N,e=.returned (.tuple #[.int .u8 (stM (m.plcL (zai rg p) (wid rg)) r rg p:Nat),.agg #[.int .i64 (mfl (m.plcL (zai rg p) (wid rg)) r rg p 0:Nat),.int .i64 (mfl (m.plcL (zai rg p) (wid rg)) r rg p 1:Nat),.int .i64 (mfl (m.plcL (zai rg p) (wid rg)) r rg p 2:Nat),.int .i64 (mfl (m.plcL (zai rg p) (wid rg)) r rg p 3:Nat),.int .i64 (mfl (m.plcL (zai rg p) (wid rg)) r rg p 4:Nat)],.slice A N N]) ∧
  By w' A N N (mbl (m.plcL (zai rg p) (wid rg)) r rg p)∧Ext w w':=by
 obtain ⟨i0,hi,hz0,hz1,hz2⟩:=info_parts zay
 have hfb:zai rg p≤300:=by
  have:=zeI rg p
  omega
 have hw2:=zgg rg
 have hfail:∀k:Nat,k<wid rg→(m.read (zai rg p+(k:Int))).2≠0→m.plcL (zai rg p) (wid rg)=[]:=fun k hk hne=>by
  unfold DM.plcL
  rw [if_pos (by unfold DM.gotB;exact ziI.2 ⟨_,by simpa using hne,by omega,by omega⟩)]
 have hgood:m.gotB (zai rg p) (wid rg)=false→m.plcL (zai rg p) (wid rg)=m.gotL (zai rg p) (wid rg):=fun hh=>by
  unfold DM.plcL
  rw [if_neg (by rw [hh];simp)]
 have HFAIL:=qj hfail
 have HGOOD:=qj hgood
 have HD:=qj hd
 have H:=qj h
 have HL:=qj hL
 have HFW:=qj hfew
 generalize hPL:m.plcL (zai rg p) (wid rg)=PL at *
 obtain ⟨S,hS⟩:∃S,zai rg p=S:=⟨_,rfl⟩
 obtain ⟨W,hW⟩:∃W,wid rg=W:=⟨_,rfl⟩
 have HS:=qj hS
 have HW:=qj hW
 rw [hS] at hfb hf HFAIL HGOOD
 rw [hW] at hw2 HFAIL HGOOD
 obtain ⟨b,w0,hw0,hE0,hT0,hz0w⟩:∃(b:Nat) (w0:World),(b=w.heap.size∧w0=w.alloc (.cells Zk.c 44))∧Ext w w0∧w0.heap[b]?=some (.cells Zk.c 44 (0,0))∧(w0.heap.size=b+1∧w.heap.size≤b) :=
  ⟨_,_,⟨rfl,rfl⟩,(Ext.refl w).alloc _,heap_alloc_new w _,by simp,Nat.le_refl _⟩
 have HE0:=qj hE0
 have HT0:=qj hT0
 have HZ0:=qj hz0w
 clear h hd hL hS hW hfew hfail hgood hPL hE0 hT0 hz0w
 go_enter Tryz.func120,Tryz.ntmps120
 go_wp2_with fail
 rw [←hw0.1,←hw0.2]
 clear hw0
 refine (zfm rg _ (HL.out.ext HE0.out).a.t).mono ?_
 rw [HW.out]
 rintro e w1 ⟨rfl,hx⟩
 have HG:=qj ((Gath.start w0).more hx)
 have HT1:=qj ((hx.block _ (Array.getElem?_eq_some_iff.1 HT0.out).1).trans HT0.out)
 clear hx
 go_wp2_with fail
 go_loopw [9,15] (fun v i wr=>∃k:Nat,k≤W∧i=.int .i64 k∧Hid (Gath w0 wr v (m.gotL S k) k)∧Hid (m.gotB S k=false)∧Hid (wr.heap[b]?=some (.cells Zk.c 44 (0,0)))) (fun _ i _=>W-(intOf i).toNat)
 case atStart=>exact ⟨0,Nat.zero_le _,rfl,HG,qj rfl,HT1⟩
 case round =>
  obtain ⟨k,hk,rfl,HG,HLO,HTk⟩:=hrel
  obtain ⟨A,c,rfl,hby⟩:=HG.out.form
  clear hby
  by_cases hlt:k<W
  ·have hn:=zdX HD.out.ok (S+(k:Int))
   have hm:(m.gotL S (k+1))=m.gotL S k++(m.read (S+(k:Int))).1:=rfl
   have HM:=qj hm
   have HN:=qj hn
   have hfew:=HG.out.few
   have hlo:(m.read (S+(k:Int))).2=0→m.gotB S (k+1)=false:=fun h0=>by
    have:=zcO (fun s=>decide ((m.read s).2≠0)) S k
    have h2:zfg (fun s=>decide ((m.read s).2≠0)) S k=false:=HLO.out
    unfold DM.gotB
    rw [this,h2]
    simp [h0]
   have hany:=HFAIL.out k hlt
   have HLO2:=qj hlo
   have HANY:=qj hany
   have hcell:=(H.out.ext (HE0.out.trans HG.out.ext)).cells.2.1
   have HCL:=qj (H.out.ext (HE0.out.trans HG.out.ext))
   have HXD:Hid (Ext w wr.drew):=qj (Below.drew (HE0.out.trans HG.out.ext))
   have HF1:=qj (zeK rg p wr.drew (HL.out.ext HXD.out).a.t)
   rw [HS.out] at HF1
   have HRD:Hid (∀V,Hid (Ext wr.drew V)→Calls Tryz.prog 152 #[aD d 0,.int .i64 (IntKind.i64.wrap (S+(k:Int)))] V fun e w'=>∃A n,e=.returned (.tuple #[.slice A n n,.int .i64 (m.read (S+(k:Int))).2])∧New V.heap.size w' A n (m.read (S+(k:Int))).1∧Ext V w'):=qj fun V hV=>by rw [wrap_i64 (by omega) (by omega)];exact zte (HD.out.ext (HXD.out.trans hV.out)) (S+(k:Int)) HFW.out
   clear hm hn hlo hany
   generalize m.gotL S k=L at *
   generalize (m.read (S+(k:Int))).1=L2 at *
   generalize (m.read (S+(k:Int))).2=E2 at *
   go_wp2_with fail
   go_region_held3 (fun w'=>w'.cell? (aD g 1)=some (.pointer (some ⟨d,0,none⟩)))
    (first | with_reducible exact hcell | exact zti (by assumption) HCL | go_keep)
    (first
     | (go_at_call 48;((with_reducible refine HF1.out.mono ?_);rintro e w2 ⟨rfl,hx⟩;have HXk:=qj hx;clear hx))
     | (go_at_call 152;((with_reducible refine (HRD.out _ HXk).mono ?_);rintro e w3 ⟨A2,n2,rfl,hnew,hx⟩;have HX3:Hid (Ext wr.drew w3):=qj (HXk.out.trans hx);have HNEW:=qj hnew;clear hx hnew)))
   obtain rfl:n2=L2.length:=HNEW.out.len.symm
   have HB:=qj HNEW.out.by
   have HGd:Hid (Gath w0 wr.drew (.slice A L.length c) L k):=qj (HG.out.more (Below.drew (Ext.refl wr)))
   have HG:=qj (HGd.out.more HX3.out)
   have HTk:Hid (w3.heap[b]?=some (.cells Zk.c 44 (0,0))):=qj ((HX3.out.block _ (Array.getElem?_eq_some_iff.1 HTk.out).1).trans HTk.out)
   by_cases h0:E2=0
   ·subst h0
    have hl2:=HN.out.2
    have hsz:=HG.out.ext.size
    go_wp2_with (at_builtin;refine zak rfl _ _ 45 rfl w0.heap.size 5 i0 Tryz.underlying45 hi hz0 hz1 hz2 _ L.length (vb L) rfl HG.out.own A2 L2.length L2.length L2 rfl HB.out (by omega) hsz ?_)
    rintro v' w4 hown hgrow
    have HTk:=qj (zoh (by have:=HZ0.out.1;omega) HG.out.own hgrow HTk.out)
    have HG:=qj (HG.out.app hgrow hown HN.out.1 HN.out.2)
    clear hown hgrow
    go_wp2_with fail
    go_roundw
    case rel=>exact ⟨k+1,by omega,by go_num,by rw [HM.out];exact HG,qj (HLO2.out trivial),HTk⟩
    case measure=>simp [intOf];omega
   ·have hne:(E2 != 0)=true:=by simpa using h0
    have HNE:=qj h0
    have hc:=zac HTk.out
    obtain ⟨⟨c0,c1,c2,c3,c4⟩,f0,f1,f2,f3,f4⟩:=hc
    clear h0
    go_wp2_with fail
    have hrow:=zaD HTk.out (.int .i64 0) (.int .i64 0) (.int .i64 0) (.int .i64 0) (.int .i64 0)
    have hx:=zal (HE0.out.trans HG.out.ext) HZ0.out.2 (.int .i64 0) (.int .i64 0) (.int .i64 0) (.int .i64 0) (.int .i64 0)
    clear c0 c1 c2 c3 c4 f0 f1 f2 f3 f4
    generalize ((SW.mk w3 b [.int .i64 0,.int .i64 0,.int .i64 0,.int .i64 0,.int .i64 0]:World))=V at hrow hx ⊢
    obtain ⟨⟨c0,c1,c2,c3,c4⟩,_⟩:=zac hrow
    refine bodyPost_ret (v:=.tuple #[.int .u8 2,.agg Zk.c,.slice none 0 0]) (by simp [results,Tryz.results120,go_sem,c0,c1,c2,c3,c4]) rfl ?_
    have hnil:=znj r rg p
    rw [HANY.out HNE.out,hnil.1,hnil.2.2]
    simp only [hnil.2.1]
    exact ⟨none,0,rfl,By.nil_ V,hx⟩
  ·obtain rfl:k=W:=by omega
   have hcl:=(H.out.ext (HE0.out.trans HG.out.ext)).cells.2.2.1
   obtain ⟨A2,c2,e2,hby⟩:=HG.out.form
   injection e2 with e21 _ e23
   subst e21;subst e23
   have HBY:=qj hby
   have ePL:=HGOOD.out HLO.out
   subst ePL
   generalize hLe:m.gotL S k=L at *
   clear hby HFAIL HGOOD
   go_wp2_with fail
   refine (zqi A L.length c L r rg p _ (HL.out.ext (HE0.out.trans HG.out.ext)) HBY.out).mono ?_
   rintro e w3 ⟨A3,N3,rfl,hb,hge,hx⟩
   have HX3:=qj (HG.out.ext.trans hx)
   have hrow:=(hx.block _ (Array.getElem?_eq_some_iff.1 HTk.out).1).trans HTk.out
   have HGE:Hid (∀g o,A3=some ⟨g,o,none⟩→0<N3→b+1≤g):=qj fun g o hA hN=>by
    have h1:=hge g o hA hN
    have h2:=HG.out.ext.size
    have h3:=HZ0.out.1
    omega
   have HB3:=qj hb
   have HROW:=qj hrow
   obtain ⟨⟨c0,c1,c2,c3,c4⟩,f0,f1,f2,f3,f4⟩:=zac hrow
   have hl3:=(Array.getElem?_eq_some_iff.1 hrow).1
   clear hb hge hx hrow hcl
   go_wp2_with fail
   have hrow:=zaD HROW.out (.int .i64 (mfl L r rg p 0:Nat)) (.int .i64 (mfl L r rg p 1:Nat)) (.int .i64 (mfl L r rg p 2:Nat)) (.int .i64 (mfl L r rg p 3:Nat)) (.int .i64 (mfl L r rg p 4:Nat))
   have hx:=zal (HE0.out.trans HX3.out) HZ0.out.2 (.int .i64 (mfl L r rg p 0:Nat)) (.int .i64 (mfl L r rg p 1:Nat)) (.int .i64 (mfl L r rg p 2:Nat)) (.int .i64 (mfl L r rg p 3:Nat)) (.int .i64 (mfl L r rg p 4:Nat))
   have hb:=HB3.out.five (h0:=b) (fun g o hA hN e=>by have:=HGE.out g o hA hN;omega) (.int .i64 (mfl L r rg p 0:Nat)) (.int .i64 (mfl L r rg p 1:Nat)) (.int .i64 (mfl L r rg p 2:Nat)) (.int .i64 (mfl L r rg p 3:Nat)) (.int .i64 (mfl L r rg p 4:Nat))
   clear c0 c1 c2 c3 c4 f0 f1 f2 f3 f4
   generalize ((SW.mk w3 b [.int .i64 (mfl L r rg p 0:Nat),.int .i64 (mfl L r rg p 1:Nat),.int .i64 (mfl L r rg p 2:Nat),.int .i64 (mfl L r rg p 3:Nat),.int .i64 (mfl L r rg p 4:Nat)]:World))=V at hrow hx hb ⊢
   obtain ⟨⟨c0,c1,c2,c3,c4⟩,_⟩:=zac hrow
   refine bodyPost_ret (v:=.tuple #[.int .u8 (stM L r rg p:Nat),.agg #[.int .i64 (mfl L r rg p 0:Nat),.int .i64 (mfl L r rg p 1:Nat),.int .i64 (mfl L r rg p 2:Nat),.int .i64 (mfl L r rg p 3:Nat),.int .i64 (mfl L r rg p 4:Nat)],.slice A3 N3 N3]) (by simp [results,Tryz.results120,go_sem,c0,c1,c2,c3,c4]) rfl ?_
   subst hLe
   exact ⟨A3,N3,rfl,hb,hx⟩
theorem By.none_ (w:World):By w none 0 0 []:=⟨rfl,Nat.le_refl _,by omega,Rd.nil_,fun _=>rfl⟩
theorem zav (a b c:Int) (w:World):(Instr.index 135 (.agg #[a,b,c]) (.int .i64 0)).run Tryz.prog w=.ok a w∧(Instr.index 135 (.agg #[a,b,c]) (.int .i64 1)).run Tryz.prog w=.ok b w∧(Instr.index 135 (.agg #[a,b,c]) (.int .i64 2)).run Tryz.prog w=.ok c w:=by
 refine ⟨?_,?_,?_⟩ <;> kernel_rfl
theorem zuS (n:Nat) (w:World) (hL:Laid w) (hn:n≤1099511627776) :
 Calls Tryz.prog 69 #[.int .i64 6,.int .i64 n] w fun e w'=>∃A' c',e=.returned (.tuple #[.slice A' 6 c',.int .i64 0])∧By w' A' 6 c' (digs 6 n)∧Ext w w':=zfZ 6 n w hL (zdZ hn)
theorem ztJ (n:Nat) (w:World) (hL:Laid w) (hn:n<256) :
 Calls Tryz.prog 69 #[.int .i64 1,.int .i64 n] w fun e w'=>∃A' c',e=.returned (.tuple #[.slice A' 1 c',.int .i64 0])∧By w' A' 1 c' [n]∧Ext w w':=by
 have h:=zfZ 1 n w hL (ziQ hn)
 rw [zeA hn] at h
 exact h
theorem zuL {A1 A2:Option Addr} {c1 c2:Nat} {l2:List Nat} (w:World) (h1:By w A1 0 c1 []) (h2:By w A2 6 c2 l2) :
 Calls Tryz.prog 61 #[.slice (some ⟨w.heap.size,0,none⟩) 2 2] (w.alloc (.cells #[.slice A1 0 c1,.slice A2 6 c2] 45)) fun e w'=>∃A' c',e=.returned (.slice A' 6 c')∧By w' A' 6 c' l2∧Ext w w':=zdu w h1 h2 (by omega)
theorem zuM {A1 A2:Option Addr} {c1 c2:Nat} {l1 l2:List Nat} (w:World) (h1:By w A1 6 c1 l1) (h2:By w A2 1 c2 l2) :
 Calls Tryz.prog 61 #[.slice (some ⟨w.heap.size,0,none⟩) 2 2] (w.alloc (.cells #[.slice A1 6 c1,.slice A2 1 c2] 45)) fun e w'=>∃A' c',e=.returned (.slice A' 7 c')∧By w' A' 7 c' (l1++l2)∧Ext w w':=zdu w h1 h2 (by omega)
theorem sget (A:Option Addr) (l:List Nat) (n c:Nat) (a x:Int) (X p:Nat) (q:Int) (hg:getS l a x=(X,p,q)) (w:World) (hL:Laid w) (hb:By w A n c l) (hm:n≤9000000000000000000) :
 Calls Tryz.prog 156 #[.slice A n c,a,x] w fun e w'=>e=.returned (.tuple #[.int .i64 X,.int .i64 p,.int .i64 q])∧w'=w:=by
 have h:=zbx A l n c _ a x w hL hb.len hb.rd hm
 rw [hg] at h
 exact h.mono fun _ _ ⟨h,hw⟩=>⟨h,by subst hw;rfl⟩
structure PaS (w W:World) (g g1:Nat) (x y a b d:Int):Prop where
 bal:W.heap[g]?=some (.cells #[.int .i64 x,.int .i64 y] 38 (0,0))
 num:W.heap[g1]?=some (.cells #[.int .i64 a,.int .i64 b,.int .i64 d] 135 (0,0))
 ext:Ext w W
 ne:g≠g1∧w.heap.size≤g∧w.heap.size≤g1
theorem PaS.make (w:World):PaS w ((w.alloc (.cells Zk.e 38)).alloc (.cells Zk.i 135)) w.heap.size (w.heap.size+1) 0 0 0 0 0:=by
 refine ⟨zaa ((Ext.refl _).alloc _) (heap_alloc_new w _),?_,((Ext.refl w).alloc _).alloc _,by omega⟩
 have h:=heap_alloc_new (w.alloc (.cells Zk.e 38)) (.cells Zk.i 135)
 rw [World.size_alloc] at h
 exact h
section
variable {w W W':World} {g g1:Nat} {x y a b d:Int}
theorem PaS.mono (h:PaS w W g g1 x y a b d) (k:Ext W W'):PaS w W' g g1 x y a b d:=⟨zaa k h.bal,zaa k h.num,h.ext.trans k,h.ne⟩
theorem PaS.put0 (h:PaS w W g g1 x y a b d) (v:Int):PaS w (W.setCell (aD g1 0) (.int .i64 v)) g g1 x y v b d:=⟨zbH h.bal h.ne.1 [.int .i64 v] 0,zbG h.num _,zaK h.ext h.ne.2.2 [.int .i64 v] 0,h.ne⟩
theorem PaS.put1 (h:PaS w W g g1 x y a b d) (v:Int):PaS w (W.setCell (aD g1 1) (.int .i64 v)) g g1 x y a v d:=⟨zbH h.bal h.ne.1 [.int .i64 v] 1,zbG h.num _,zaK h.ext h.ne.2.2 [.int .i64 v] 1,h.ne⟩
theorem PaS.put2 (h:PaS w W g g1 x y a b d) (v:Int):PaS w (W.setCell (aD g1 2) (.int .i64 v)) g g1 x y a b v:=⟨zbH h.bal h.ne.1 [.int .i64 v] 2,zbG h.num _,zaK h.ext h.ne.2.2 [.int .i64 v] 2,h.ne⟩
theorem PaS.ball (h:PaS w W g g1 x y a b d) (u v:Int):PaS w ((W.setCell (aD g 0) u).setCell (aD g 1) v) g g1 u v a b d :=
 ⟨zbG (zbG h.bal u) v,zbH h.num (fun e=>h.ne.1 e.symm) [u,v] 0,zaK h.ext h.ne.2.1 [u,v] 0,h.ne⟩
end
theorem zqX (A:Option Addr) (n c:Nat) (l:List Nat) (w:World) (hL:LaidS w) (hb:By w A n c l) (hm:n≤1000) (hg0:getS l 0 6=(0,0,10)) :
 (cL 122 #[.slice A n c] w (.tuple #[.agg Zk.e,.int .i64 0,.int .i64 90]):Prop):=by
 have HL:=qj hL
 have HB:=qj hb
 have G0:=qj (sget A l n c 0 6 _ _ _ hg0 · · · (by omega))
 clear hg0
 have HS:=qj (PaS.make w)
 have i0:=fun w=>(zav 6 1 1 w).1
 have i1:=fun w=>(zav 6 1 1 w).2.1
 have i2:=fun w=>(zav 6 1 1 w).2.2
 clear hL hb hm
 go_enter Tryz.func122,Tryz.ntmps122
 go_upto_region 3 with (fail)
 generalize ((w.alloc (.cells Zk.e 38)).alloc (.cells Zk.i 135))=W0 at *
 generalize w.heap.size+1=g1 at *
 generalize hg:w.heap.size=g at *
 have HGG:=qj hg
 clear hg
 obtain ⟨t0,t1,t2⟩:=(HL.out.ext HS.out.ext).t
 go_wp2_with fail
 refine wp_loop_rounds 4 ?_
 clear t0 t1 t2
 rw [rounds_succ]
 go_wp2_with fail
 refine (G0.out W0 (HL.out.ext HS.out.ext).o (HB.out.ext HS.out.ext)).mono ?_
 rintro e v0 ⟨rfl,hw⟩
 subst v0
 obtain ⟨e0,e1⟩:=fr2 (HS.out.bal)
 have z0:=cell_of_row W0 g 0 _ _ _ HS.out.bal
 have z1:=cell_of_row W0 g 1 _ _ _ HS.out.bal
 have HS:=qj (HS.out.ball 0 0)
 go_wp2_with fail
 generalize ((W0.setCell (aD g 0) (.int .i64 0)).setCell (aD g 1) (.int .i64 0))=V at *
 clear e0 e1 z0 z1
 have z0:=cell_of_row V g 0 _ _ _ HS.out.bal
 have z1:=cell_of_row V g 1 _ _ _ HS.out.bal
 refine bodyPost_ret (v:=.tuple #[.agg Zk.e,.int .i64 0,.int .i64 90]) (by simp [results,Tryz.results122,go_sem,z0,z1]) rfl ⟨rfl,HS.out.ext⟩
theorem zrd (A:Option Addr) (n c:Nat) (l:List Nat) (w:World) (hL:LaidS w) (hb:By w A n c l) (hm:n≤1000) (X0:Nat) (hg0:getS l 0 6=(X0,6,0)) (hg1:getS l 6 1=(0,0,10)) :
 (cL 122 #[.slice A n c] w (.tuple #[.agg Zk.e,.int .i64 0,.int .i64 90]):Prop):=by
 have HL:=qj hL
 have HB:=qj hb
 have G0:=qj (sget A l n c 0 6 _ _ _ hg0 · · · (by omega))
 clear hg0
 have G1:=qj (sget A l n c 6 1 _ _ _ hg1 · · · (by omega))
 clear hg1
 have HS:=qj (PaS.make w)
 have i0:=fun w=>(zav 6 1 1 w).1
 have i1:=fun w=>(zav 6 1 1 w).2.1
 have i2:=fun w=>(zav 6 1 1 w).2.2
 clear hL hb hm
 go_enter Tryz.func122,Tryz.ntmps122
 go_upto_region 3 with (fail)
 generalize ((w.alloc (.cells Zk.e 38)).alloc (.cells Zk.i 135))=W0 at *
 generalize w.heap.size+1=g1 at *
 generalize hg:w.heap.size=g at *
 have HGG:=qj hg
 clear hg
 obtain ⟨t0,t1,t2⟩:=(HL.out.ext HS.out.ext).t
 go_wp2_with fail
 refine wp_loop_rounds 4 ?_
 clear t0 t1 t2
 rw [rounds_succ]
 go_wp2_with fail
 refine (G0.out W0 (HL.out.ext HS.out.ext).o (HB.out.ext HS.out.ext)).mono ?_
 rintro e v0 ⟨rfl,hw⟩
 subst v0
 have s0:=cell_of_row W0 g1 0 _ _ _ HS.out.num
 have s1:=frozen_of_row W0 g1 0 _ _ HS.out.num
 have HS:=qj (HS.out.put0 (X0:Int))
 go_upto_region 10 with (fail)
 generalize (W0.setCell (aD g1 0) (.int .i64 (X0:Int)))=W1 at *
 clear s0 s1
 go_wp2_with fail
 rw [rounds_succ]
 go_wp2_with fail
 refine (G1.out W1 (HL.out.ext HS.out.ext).o (HB.out.ext HS.out.ext)).mono ?_
 rintro e v1 ⟨rfl,hw⟩
 subst v1
 obtain ⟨e0,e1⟩:=fr2 (HS.out.bal)
 have z0:=cell_of_row W1 g 0 _ _ _ HS.out.bal
 have z1:=cell_of_row W1 g 1 _ _ _ HS.out.bal
 have HS:=qj (HS.out.ball 0 0)
 go_wp2_with fail
 generalize ((W1.setCell (aD g 0) (.int .i64 0)).setCell (aD g 1) (.int .i64 0))=V at *
 clear e0 e1 z0 z1
 have z0:=cell_of_row V g 0 _ _ _ HS.out.bal
 have z1:=cell_of_row V g 1 _ _ _ HS.out.bal
 refine bodyPost_ret (v:=.tuple #[.agg Zk.e,.int .i64 0,.int .i64 90]) (by simp [results,Tryz.results122,go_sem,z0,z1]) rfl ⟨rfl,HS.out.ext⟩
theorem zrx (A:Option Addr) (n c:Nat) (l:List Nat) (w:World) (hL:LaidS w) (hb:By w A n c l) (hm:n≤1000) (X0:Nat) (hg0:getS l 0 6=(X0,6,0)) (X1:Nat) (hg1:getS l 6 1=(X1,7,0)) (hg2:getS l 7 1=(0,0,10)) :
 (cL 122 #[.slice A n c] w (.tuple #[.agg Zk.e,.int .i64 0,.int .i64 90]):Prop):=by
 have HL:=qj hL
 have HB:=qj hb
 have G0:=qj (sget A l n c 0 6 _ _ _ hg0 · · · (by omega))
 clear hg0
 have G1:=qj (sget A l n c 6 1 _ _ _ hg1 · · · (by omega))
 clear hg1
 have G2:=qj (sget A l n c 7 1 _ _ _ hg2 · · · (by omega))
 clear hg2
 have HS:=qj (PaS.make w)
 have i0:=fun w=>(zav 6 1 1 w).1
 have i1:=fun w=>(zav 6 1 1 w).2.1
 have i2:=fun w=>(zav 6 1 1 w).2.2
 clear hL hb hm
 go_enter Tryz.func122,Tryz.ntmps122
 go_upto_region 3 with (fail)
 generalize ((w.alloc (.cells Zk.e 38)).alloc (.cells Zk.i 135))=W0 at *
 generalize w.heap.size+1=g1 at *
 generalize hg:w.heap.size=g at *
 have HGG:=qj hg
 clear hg
 obtain ⟨t0,t1,t2⟩:=(HL.out.ext HS.out.ext).t
 go_wp2_with fail
 refine wp_loop_rounds 4 ?_
 clear t0 t1 t2
 rw [rounds_succ]
 go_wp2_with fail
 refine (G0.out W0 (HL.out.ext HS.out.ext).o (HB.out.ext HS.out.ext)).mono ?_
 rintro e v0 ⟨rfl,hw⟩
 subst v0
 have s0:=cell_of_row W0 g1 0 _ _ _ HS.out.num
 have s1:=frozen_of_row W0 g1 0 _ _ HS.out.num
 have HS:=qj (HS.out.put0 (X0:Int))
 go_upto_region 10 with (fail)
 generalize (W0.setCell (aD g1 0) (.int .i64 (X0:Int)))=W1 at *
 clear s0 s1
 go_wp2_with fail
 rw [rounds_succ]
 go_wp2_with fail
 refine (G1.out W1 (HL.out.ext HS.out.ext).o (HB.out.ext HS.out.ext)).mono ?_
 rintro e v1 ⟨rfl,hw⟩
 subst v1
 have s0:=cell_of_row W1 g1 1 _ _ _ HS.out.num
 have s1:=frozen_of_row W1 g1 1 _ _ HS.out.num
 have HS:=qj (HS.out.put1 (X1:Int))
 go_upto_region 10 with (fail)
 generalize (W1.setCell (aD g1 1) (.int .i64 (X1:Int)))=W2 at *
 clear s0 s1
 go_wp2_with fail
 rw [rounds_succ]
 go_wp2_with fail
 refine (G2.out W2 (HL.out.ext HS.out.ext).o (HB.out.ext HS.out.ext)).mono ?_
 rintro e v2 ⟨rfl,hw⟩
 subst v2
 obtain ⟨e0,e1⟩:=fr2 (HS.out.bal)
 have z0:=cell_of_row W2 g 0 _ _ _ HS.out.bal
 have z1:=cell_of_row W2 g 1 _ _ _ HS.out.bal
 have HS:=qj (HS.out.ball 0 0)
 go_wp2_with fail
 generalize ((W2.setCell (aD g 0) (.int .i64 0)).setCell (aD g 1) (.int .i64 0))=V at *
 clear e0 e1 z0 z1
 have z0:=cell_of_row V g 0 _ _ _ HS.out.bal
 have z1:=cell_of_row V g 1 _ _ _ HS.out.bal
 refine bodyPost_ret (v:=.tuple #[.agg Zk.e,.int .i64 0,.int .i64 90]) (by simp [results,Tryz.results122,go_sem,z0,z1]) rfl ⟨rfl,HS.out.ext⟩
theorem zkm (A:Option Addr) (n c:Nat) (l:List Nat) (w:World) (hL:LaidS w) (hb:By w A n c l) (hm:n≤1000) (X0:Nat) (hg0:getS l 0 6=(X0,6,0)) (X1:Nat) (hg1:getS l 6 1=(X1,7,0)) (X2:Nat) (hg2:getS l 7 1=(X2,8,0)) (hn8:n≠8) :
 (cL 122 #[.slice A n c] w (.tuple #[.agg Zk.e,.int .i64 0,.int .i64 90]):Prop):=by
 have HL:=qj hL
 have HB:=qj hb
 have G0:=qj (sget A l n c 0 6 _ _ _ hg0 · · · (by omega))
 clear hg0
 have G1:=qj (sget A l n c 6 1 _ _ _ hg1 · · · (by omega))
 clear hg1
 have G2:=qj (sget A l n c 7 1 _ _ _ hg2 · · · (by omega))
 clear hg2
 have hne:((8:Int) != (n:Int))=true:=by rw [bne_iff_ne];omega
 clear hn8
 have HS:=qj (PaS.make w)
 have i0:=fun w=>(zav 6 1 1 w).1
 have i1:=fun w=>(zav 6 1 1 w).2.1
 have i2:=fun w=>(zav 6 1 1 w).2.2
 clear hL hb hm
 go_enter Tryz.func122,Tryz.ntmps122
 go_upto_region 3 with (fail)
 generalize ((w.alloc (.cells Zk.e 38)).alloc (.cells Zk.i 135))=W0 at *
 generalize w.heap.size+1=g1 at *
 generalize hg:w.heap.size=g at *
 have HGG:=qj hg
 clear hg
 obtain ⟨t0,t1,t2⟩:=(HL.out.ext HS.out.ext).t
 go_wp2_with fail
 refine wp_loop_rounds 4 ?_
 clear t0 t1 t2
 rw [rounds_succ]
 go_wp2_with fail
 refine (G0.out W0 (HL.out.ext HS.out.ext).o (HB.out.ext HS.out.ext)).mono ?_
 rintro e v0 ⟨rfl,hw⟩
 subst v0
 have s0:=cell_of_row W0 g1 0 _ _ _ HS.out.num
 have s1:=frozen_of_row W0 g1 0 _ _ HS.out.num
 have HS:=qj (HS.out.put0 (X0:Int))
 go_upto_region 10 with (fail)
 generalize (W0.setCell (aD g1 0) (.int .i64 (X0:Int)))=W1 at *
 clear s0 s1
 go_wp2_with fail
 rw [rounds_succ]
 go_wp2_with fail
 refine (G1.out W1 (HL.out.ext HS.out.ext).o (HB.out.ext HS.out.ext)).mono ?_
 rintro e v1 ⟨rfl,hw⟩
 subst v1
 have s0:=cell_of_row W1 g1 1 _ _ _ HS.out.num
 have s1:=frozen_of_row W1 g1 1 _ _ HS.out.num
 have HS:=qj (HS.out.put1 (X1:Int))
 go_upto_region 10 with (fail)
 generalize (W1.setCell (aD g1 1) (.int .i64 (X1:Int)))=W2 at *
 clear s0 s1
 go_wp2_with fail
 rw [rounds_succ]
 go_wp2_with fail
 refine (G2.out W2 (HL.out.ext HS.out.ext).o (HB.out.ext HS.out.ext)).mono ?_
 rintro e v2 ⟨rfl,hw⟩
 subst v2
 have s0:=cell_of_row W2 g1 2 _ _ _ HS.out.num
 have s1:=frozen_of_row W2 g1 2 _ _ HS.out.num
 have HS:=qj (HS.out.put2 (X2:Int))
 go_upto_region 10 with (fail)
 generalize (W2.setCell (aD g1 2) (.int .i64 (X2:Int)))=W3 at *
 clear s0 s1
 go_wp2_with fail
 rw [rounds_succ]
 go_upto_region 11 with (fail)
 refine wp_region_held_drew (S:=fun w'=>(CW.mk w' g1 [.int .i64 X0,.int .i64 X1,.int .i64 X2]:Prop)) (by kernel_rfl) (⟨cell_of_row _ g1 0 _ _ _ (HS.out.mono (Ext.refl W3).drew).num,cell_of_row _ g1 1 _ _ _ (HS.out.mono (Ext.refl W3).drew).num,cell_of_row _ g1 2 _ _ _ (HS.out.mono (Ext.refl W3).drew).num⟩) (fun hHeld=>?_)
 refine tj (i:=0) (oi:=⟨some 33,.indexAddr 135 (.tmp 5) (.const (.int .i64 0)),0, "slot.go:80",#[],none⟩) rfl (by kernel_rfl) ?_
 try simp only [Act.put,sT,s0,s1]
 refine tj (i:=1) (oi:=⟨some 34,.load 3 (.tmp 33),3, "slot.go:80",#[⟨0,.data⟩],none⟩) rfl (by kernel_rfl) ?_
 try simp only [Act.put,sT,s0,s1]
 refine tj (i:=2) (oi:=⟨some 35,.indexAddr 135 (.tmp 5) (.const (.int .i64 1)),0, "slot.go:80",#[],none⟩) rfl (by kernel_rfl) ?_
 try simp only [Act.put,sT,s0,s1]
 refine tj (i:=3) (oi:=⟨some 36,.load 3 (.tmp 35),3, "slot.go:80",#[⟨2,.data⟩],none⟩) rfl (by kernel_rfl) ?_
 try simp only [Act.put,sT,s0,s1]
 refine tj (i:=4) (oi:=⟨some 37,.build 38 #[(0,.tmp 34),(1,.tmp 36)],38, "slot.go:80",#[⟨1,.data⟩,⟨3,.data⟩],none⟩) rfl (by kernel_rfl) ?_
 try simp only [Act.put,sT,s0,s1]
 refine tj (i:=5) (oi:=⟨some 38,.indexAddr 135 (.tmp 5) (.const (.int .i64 2)),0, "slot.go:80",#[⟨7,.gcOnly .lateStores⟩],none⟩) rfl (by kernel_rfl) ?_
 try simp only [Act.put,sT,s0,s1]
 refine tj (i:=6) (oi:=⟨some 39,.load 3 (.tmp 38),3, "slot.go:80",#[⟨5,.data⟩,⟨7,.gcOnly .lateStores⟩],none⟩) rfl (by kernel_rfl) ?_
 try simp only [Act.put,sT,s0,s1]
 have HS:=qj (HS.out.mono (Ext.refl W3).drew)
 generalize W3.drew=W4 at *
 obtain ⟨e0,e1⟩:=fr2 (HS.out.bal)
 have z0:=cell_of_row W4 g 0 _ _ _ HS.out.bal
 have z1:=cell_of_row W4 g 1 _ _ _ HS.out.bal
 have HS:=qj (HS.out.ball (X0:Int) (X1:Int))
 refine wpAnyH_ready (rs:=[7]) (by kernel_rfl) (by simp) ?_
 refine AllReadyH.cons (o:=⟨none,.store 38 (.tmp 2) (.tmp 37),0, "slot.go:80",#[⟨4,.data⟩,⟨0,.phase⟩,⟨1,.phase⟩,⟨2,.phase⟩,⟨3,.phase⟩,⟨4,.phase⟩,⟨5,.textOnly .lateStores⟩,⟨6,.textOnly .lateStores⟩],none⟩) rfl (fun K hK=>?_) AllReadyH.nil
 clear hHeld
 go_simp
 refine hK.out _ _ (⟨cell_of_row _ g1 0 _ _ _ HS.out.num,cell_of_row _ g1 1 _ _ _ HS.out.num,cell_of_row _ g1 2 _ _ _ HS.out.num⟩) (fun hHeld=>?_)
 clear hK K
 try simp only [Act.put,sT,s0,s1]
 refine tj (i:=8) (oi:=⟨some 3,.assign (.tmp 39),3, "slot.go:80",#[⟨6,.data⟩,⟨7,.chain⟩,⟨0,.phase⟩,⟨1,.phase⟩,⟨2,.phase⟩,⟨3,.phase⟩,⟨4,.phase⟩,⟨5,.phase⟩,⟨6,.phase⟩,⟨7,.phase⟩],none⟩) rfl (by kernel_rfl) ?_
 try simp only [Act.put,sT,s0,s1]
 refine wpAnyH_done (by kernel_rfl) ?_ _
 clear hHeld
 generalize ((W4.setCell (aD g 0) (.int .i64 (X0:Int))).setCell (aD g 1) (.int .i64 (X1:Int)))=W5 at *
 clear e0 e1 z0 z1
 obtain ⟨e0,e1⟩:=fr2 (HS.out.bal)
 have z0:=cell_of_row W5 g 0 _ _ _ HS.out.bal
 have z1:=cell_of_row W5 g 1 _ _ _ HS.out.bal
 have HS:=qj (HS.out.ball 0 0)
 go_wp2_with fail
 generalize ((W5.setCell (aD g 0) (.int .i64 0)).setCell (aD g 1) (.int .i64 0))=V at *
 clear e0 e1 z0 z1
 have z0:=cell_of_row V g 0 _ _ _ HS.out.bal
 have z1:=cell_of_row V g 1 _ _ _ HS.out.bal
 refine bodyPost_ret (v:=.tuple #[.agg Zk.e,.int .i64 0,.int .i64 90]) (by simp [results,Tryz.results122,go_sem,z0,z1]) rfl ⟨rfl,HS.out.ext⟩
theorem zlZ (A:Option Addr) (n c:Nat) (l:List Nat) (w:World) (hL:LaidS w) (hb:By w A n c l) (hm:n≤1000) (X0:Nat) (hg0:getS l 0 6=(X0,6,0)) (X1:Nat) (hg1:getS l 6 1=(X1,7,0)) (X2:Nat) (hg2:getS l 7 1=(X2,8,0)) (hn8:n=8) (hr:recB (X0:Int) (X1:Int) (X2:Int)=false) :
 (cL 122 #[.slice A n c] w (.tuple #[.agg Zk.e,.int .i64 0,.int .i64 90]):Prop):=by
 have HL:=qj hL
 have HB:=qj hb
 have G0:=qj (sget A l n c 0 6 _ _ _ hg0 · · · (by omega))
 clear hg0
 have G1:=qj (sget A l n c 6 1 _ _ _ hg1 · · · (by omega))
 clear hg1
 have G2:=qj (sget A l n c 7 1 _ _ _ hg2 · · · (by omega))
 clear hg2
 subst hn8
 have HM:=qj (fun V hV=>zmm (X0:Int) (X1:Int) (X2:Int) V hV)
 rw [hr] at HM
 clear hr
 have HS:=qj (PaS.make w)
 have i0:=fun w=>(zav 6 1 1 w).1
 have i1:=fun w=>(zav 6 1 1 w).2.1
 have i2:=fun w=>(zav 6 1 1 w).2.2
 clear hL hb hm
 go_enter Tryz.func122,Tryz.ntmps122
 go_upto_region 3 with (fail)
 generalize ((w.alloc (.cells Zk.e 38)).alloc (.cells Zk.i 135))=W0 at *
 generalize w.heap.size+1=g1 at *
 generalize hg:w.heap.size=g at *
 have HGG:=qj hg
 clear hg
 obtain ⟨t0,t1,t2⟩:=(HL.out.ext HS.out.ext).t
 go_wp2_with fail
 refine wp_loop_rounds 4 ?_
 clear t0 t1 t2
 rw [rounds_succ]
 go_wp2_with fail
 refine (G0.out W0 (HL.out.ext HS.out.ext).o (HB.out.ext HS.out.ext)).mono ?_
 rintro e v0 ⟨rfl,hw⟩
 subst v0
 have s0:=cell_of_row W0 g1 0 _ _ _ HS.out.num
 have s1:=frozen_of_row W0 g1 0 _ _ HS.out.num
 have HS:=qj (HS.out.put0 (X0:Int))
 go_upto_region 10 with (fail)
 generalize (W0.setCell (aD g1 0) (.int .i64 (X0:Int)))=W1 at *
 clear s0 s1
 go_wp2_with fail
 rw [rounds_succ]
 go_wp2_with fail
 refine (G1.out W1 (HL.out.ext HS.out.ext).o (HB.out.ext HS.out.ext)).mono ?_
 rintro e v1 ⟨rfl,hw⟩
 subst v1
 have s0:=cell_of_row W1 g1 1 _ _ _ HS.out.num
 have s1:=frozen_of_row W1 g1 1 _ _ HS.out.num
 have HS:=qj (HS.out.put1 (X1:Int))
 go_upto_region 10 with (fail)
 generalize (W1.setCell (aD g1 1) (.int .i64 (X1:Int)))=W2 at *
 clear s0 s1
 go_wp2_with fail
 rw [rounds_succ]
 go_wp2_with fail
 refine (G2.out W2 (HL.out.ext HS.out.ext).o (HB.out.ext HS.out.ext)).mono ?_
 rintro e v2 ⟨rfl,hw⟩
 subst v2
 have s0:=cell_of_row W2 g1 2 _ _ _ HS.out.num
 have s1:=frozen_of_row W2 g1 2 _ _ HS.out.num
 have HS:=qj (HS.out.put2 (X2:Int))
 go_upto_region 10 with (fail)
 generalize (W2.setCell (aD g1 2) (.int .i64 (X2:Int)))=W3 at *
 clear s0 s1
 go_wp2_with fail
 rw [rounds_succ]
 go_upto_region 11 with (fail)
 refine wp_region_held_drew (S:=fun w'=>(CW.mk w' g1 [.int .i64 X0,.int .i64 X1,.int .i64 X2]:Prop)) (by kernel_rfl) (⟨cell_of_row _ g1 0 _ _ _ (HS.out.mono (Ext.refl W3).drew).num,cell_of_row _ g1 1 _ _ _ (HS.out.mono (Ext.refl W3).drew).num,cell_of_row _ g1 2 _ _ _ (HS.out.mono (Ext.refl W3).drew).num⟩) (fun hHeld=>?_)
 refine tj (i:=0) (oi:=⟨some 33,.indexAddr 135 (.tmp 5) (.const (.int .i64 0)),0, "slot.go:80",#[],none⟩) rfl (by kernel_rfl) ?_
 try simp only [Act.put,sT,s0,s1]
 refine tj (i:=1) (oi:=⟨some 34,.load 3 (.tmp 33),3, "slot.go:80",#[⟨0,.data⟩],none⟩) rfl (by kernel_rfl) ?_
 try simp only [Act.put,sT,s0,s1]
 refine tj (i:=2) (oi:=⟨some 35,.indexAddr 135 (.tmp 5) (.const (.int .i64 1)),0, "slot.go:80",#[],none⟩) rfl (by kernel_rfl) ?_
 try simp only [Act.put,sT,s0,s1]
 refine tj (i:=3) (oi:=⟨some 36,.load 3 (.tmp 35),3, "slot.go:80",#[⟨2,.data⟩],none⟩) rfl (by kernel_rfl) ?_
 try simp only [Act.put,sT,s0,s1]
 refine tj (i:=4) (oi:=⟨some 37,.build 38 #[(0,.tmp 34),(1,.tmp 36)],38, "slot.go:80",#[⟨1,.data⟩,⟨3,.data⟩],none⟩) rfl (by kernel_rfl) ?_
 try simp only [Act.put,sT,s0,s1]
 refine tj (i:=5) (oi:=⟨some 38,.indexAddr 135 (.tmp 5) (.const (.int .i64 2)),0, "slot.go:80",#[⟨7,.gcOnly .lateStores⟩],none⟩) rfl (by kernel_rfl) ?_
 try simp only [Act.put,sT,s0,s1]
 refine tj (i:=6) (oi:=⟨some 39,.load 3 (.tmp 38),3, "slot.go:80",#[⟨5,.data⟩,⟨7,.gcOnly .lateStores⟩],none⟩) rfl (by kernel_rfl) ?_
 try simp only [Act.put,sT,s0,s1]
 have HS:=qj (HS.out.mono (Ext.refl W3).drew)
 generalize W3.drew=W4 at *
 obtain ⟨e0,e1⟩:=fr2 (HS.out.bal)
 have z0:=cell_of_row W4 g 0 _ _ _ HS.out.bal
 have z1:=cell_of_row W4 g 1 _ _ _ HS.out.bal
 have HS:=qj (HS.out.ball (X0:Int) (X1:Int))
 refine wpAnyH_ready (rs:=[7]) (by kernel_rfl) (by simp) ?_
 refine AllReadyH.cons (o:=⟨none,.store 38 (.tmp 2) (.tmp 37),0, "slot.go:80",#[⟨4,.data⟩,⟨0,.phase⟩,⟨1,.phase⟩,⟨2,.phase⟩,⟨3,.phase⟩,⟨4,.phase⟩,⟨5,.textOnly .lateStores⟩,⟨6,.textOnly .lateStores⟩],none⟩) rfl (fun K hK=>?_) AllReadyH.nil
 clear hHeld
 go_simp
 refine hK.out _ _ (⟨cell_of_row _ g1 0 _ _ _ HS.out.num,cell_of_row _ g1 1 _ _ _ HS.out.num,cell_of_row _ g1 2 _ _ _ HS.out.num⟩) (fun hHeld=>?_)
 clear hK K
 try simp only [Act.put,sT,s0,s1]
 refine tj (i:=8) (oi:=⟨some 3,.assign (.tmp 39),3, "slot.go:80",#[⟨6,.data⟩,⟨7,.chain⟩,⟨0,.phase⟩,⟨1,.phase⟩,⟨2,.phase⟩,⟨3,.phase⟩,⟨4,.phase⟩,⟨5,.phase⟩,⟨6,.phase⟩,⟨7,.phase⟩],none⟩) rfl (by kernel_rfl) ?_
 try simp only [Act.put,sT,s0,s1]
 refine wpAnyH_done (by kernel_rfl) ?_ _
 clear hHeld
 generalize ((W4.setCell (aD g 0) (.int .i64 (X0:Int))).setCell (aD g 1) (.int .i64 (X1:Int)))=W5 at *
 clear e0 e1 z0 z1
 have z0:=cell_of_row W5 g 0 _ _ _ HS.out.bal
 have z1:=cell_of_row W5 g 1 _ _ _ HS.out.bal
 go_wp2_with fail
 refine (HM.out W5 (HL.out.ext HS.out.ext).o).mono ?_
 rintro e W6 ⟨rfl,hx⟩
 have HS:=qj (HS.out.mono hx)
 clear hx z0 z1
 obtain ⟨e0,e1⟩:=fr2 (HS.out.bal)
 have z0:=cell_of_row W6 g 0 _ _ _ HS.out.bal
 have z1:=cell_of_row W6 g 1 _ _ _ HS.out.bal
 have HS:=qj (HS.out.ball 0 0)
 go_wp2_with fail
 generalize ((W6.setCell (aD g 0) (.int .i64 0)).setCell (aD g 1) (.int .i64 0))=V at *
 clear e0 e1 z0 z1
 have z0:=cell_of_row V g 0 _ _ _ HS.out.bal
 have z1:=cell_of_row V g 1 _ _ _ HS.out.bal
 refine bodyPost_ret (v:=.tuple #[.agg Zk.e,.int .i64 0,.int .i64 90]) (by simp [results,Tryz.results122,go_sem,z0,z1]) rfl ⟨rfl,HS.out.ext⟩
theorem zkH (A:Option Addr) (n c:Nat) (l:List Nat) (w:World) (hL:LaidS w) (hb:By w A n c l) (hm:n≤1000) (X0:Nat) (hg0:getS l 0 6=(X0,6,0)) (X1:Nat) (hg1:getS l 6 1=(X1,7,0)) (X2:Nat) (hg2:getS l 7 1=(X2,8,0)) (hn8:n=8) (hr:recB (X0:Int) (X1:Int) (X2:Int)=true) :
 (cL 122 #[.slice A n c] w (.tuple #[.agg #[.int .i64 X0,.int .i64 X1],.int .i64 X2,.int .i64 0]):Prop):=by
 have HL:=qj hL
 have HB:=qj hb
 have G0:=qj (sget A l n c 0 6 _ _ _ hg0 · · · (by omega))
 clear hg0
 have G1:=qj (sget A l n c 6 1 _ _ _ hg1 · · · (by omega))
 clear hg1
 have G2:=qj (sget A l n c 7 1 _ _ _ hg2 · · · (by omega))
 clear hg2
 subst hn8
 have HM:=qj (fun V hV=>zmm (X0:Int) (X1:Int) (X2:Int) V hV)
 rw [hr] at HM
 clear hr
 have HS:=qj (PaS.make w)
 have i0:=fun w=>(zav 6 1 1 w).1
 have i1:=fun w=>(zav 6 1 1 w).2.1
 have i2:=fun w=>(zav 6 1 1 w).2.2
 clear hL hb hm
 go_enter Tryz.func122,Tryz.ntmps122
 go_upto_region 3 with (fail)
 generalize ((w.alloc (.cells Zk.e 38)).alloc (.cells Zk.i 135))=W0 at *
 generalize w.heap.size+1=g1 at *
 generalize hg:w.heap.size=g at *
 have HGG:=qj hg
 clear hg
 obtain ⟨t0,t1,t2⟩:=(HL.out.ext HS.out.ext).t
 go_wp2_with fail
 refine wp_loop_rounds 4 ?_
 clear t0 t1 t2
 rw [rounds_succ]
 go_wp2_with fail
 refine (G0.out W0 (HL.out.ext HS.out.ext).o (HB.out.ext HS.out.ext)).mono ?_
 rintro e v0 ⟨rfl,hw⟩
 subst v0
 have s0:=cell_of_row W0 g1 0 _ _ _ HS.out.num
 have s1:=frozen_of_row W0 g1 0 _ _ HS.out.num
 have HS:=qj (HS.out.put0 (X0:Int))
 go_upto_region 10 with (fail)
 generalize (W0.setCell (aD g1 0) (.int .i64 (X0:Int)))=W1 at *
 clear s0 s1
 go_wp2_with fail
 rw [rounds_succ]
 go_wp2_with fail
 refine (G1.out W1 (HL.out.ext HS.out.ext).o (HB.out.ext HS.out.ext)).mono ?_
 rintro e v1 ⟨rfl,hw⟩
 subst v1
 have s0:=cell_of_row W1 g1 1 _ _ _ HS.out.num
 have s1:=frozen_of_row W1 g1 1 _ _ HS.out.num
 have HS:=qj (HS.out.put1 (X1:Int))
 go_upto_region 10 with (fail)
 generalize (W1.setCell (aD g1 1) (.int .i64 (X1:Int)))=W2 at *
 clear s0 s1
 go_wp2_with fail
 rw [rounds_succ]
 go_wp2_with fail
 refine (G2.out W2 (HL.out.ext HS.out.ext).o (HB.out.ext HS.out.ext)).mono ?_
 rintro e v2 ⟨rfl,hw⟩
 subst v2
 have s0:=cell_of_row W2 g1 2 _ _ _ HS.out.num
 have s1:=frozen_of_row W2 g1 2 _ _ HS.out.num
 have HS:=qj (HS.out.put2 (X2:Int))
 go_upto_region 10 with (fail)
 generalize (W2.setCell (aD g1 2) (.int .i64 (X2:Int)))=W3 at *
 clear s0 s1
 go_wp2_with fail
 rw [rounds_succ]
 go_upto_region 11 with (fail)
 refine wp_region_held_drew (S:=fun w'=>(CW.mk w' g1 [.int .i64 X0,.int .i64 X1,.int .i64 X2]:Prop)) (by kernel_rfl) (⟨cell_of_row _ g1 0 _ _ _ (HS.out.mono (Ext.refl W3).drew).num,cell_of_row _ g1 1 _ _ _ (HS.out.mono (Ext.refl W3).drew).num,cell_of_row _ g1 2 _ _ _ (HS.out.mono (Ext.refl W3).drew).num⟩) (fun hHeld=>?_)
 refine tj (i:=0) (oi:=⟨some 33,.indexAddr 135 (.tmp 5) (.const (.int .i64 0)),0, "slot.go:80",#[],none⟩) rfl (by kernel_rfl) ?_
 try simp only [Act.put,sT,s0,s1]
 refine tj (i:=1) (oi:=⟨some 34,.load 3 (.tmp 33),3, "slot.go:80",#[⟨0,.data⟩],none⟩) rfl (by kernel_rfl) ?_
 try simp only [Act.put,sT,s0,s1]
 refine tj (i:=2) (oi:=⟨some 35,.indexAddr 135 (.tmp 5) (.const (.int .i64 1)),0, "slot.go:80",#[],none⟩) rfl (by kernel_rfl) ?_
 try simp only [Act.put,sT,s0,s1]
 refine tj (i:=3) (oi:=⟨some 36,.load 3 (.tmp 35),3, "slot.go:80",#[⟨2,.data⟩],none⟩) rfl (by kernel_rfl) ?_
 try simp only [Act.put,sT,s0,s1]
 refine tj (i:=4) (oi:=⟨some 37,.build 38 #[(0,.tmp 34),(1,.tmp 36)],38, "slot.go:80",#[⟨1,.data⟩,⟨3,.data⟩],none⟩) rfl (by kernel_rfl) ?_
 try simp only [Act.put,sT,s0,s1]
 refine tj (i:=5) (oi:=⟨some 38,.indexAddr 135 (.tmp 5) (.const (.int .i64 2)),0, "slot.go:80",#[⟨7,.gcOnly .lateStores⟩],none⟩) rfl (by kernel_rfl) ?_
 try simp only [Act.put,sT,s0,s1]
 refine tj (i:=6) (oi:=⟨some 39,.load 3 (.tmp 38),3, "slot.go:80",#[⟨5,.data⟩,⟨7,.gcOnly .lateStores⟩],none⟩) rfl (by kernel_rfl) ?_
 try simp only [Act.put,sT,s0,s1]
 have HS:=qj (HS.out.mono (Ext.refl W3).drew)
 generalize W3.drew=W4 at *
 obtain ⟨e0,e1⟩:=fr2 (HS.out.bal)
 have z0:=cell_of_row W4 g 0 _ _ _ HS.out.bal
 have z1:=cell_of_row W4 g 1 _ _ _ HS.out.bal
 have HS:=qj (HS.out.ball (X0:Int) (X1:Int))
 refine wpAnyH_ready (rs:=[7]) (by kernel_rfl) (by simp) ?_
 refine AllReadyH.cons (o:=⟨none,.store 38 (.tmp 2) (.tmp 37),0, "slot.go:80",#[⟨4,.data⟩,⟨0,.phase⟩,⟨1,.phase⟩,⟨2,.phase⟩,⟨3,.phase⟩,⟨4,.phase⟩,⟨5,.textOnly .lateStores⟩,⟨6,.textOnly .lateStores⟩],none⟩) rfl (fun K hK=>?_) AllReadyH.nil
 clear hHeld
 go_simp
 refine hK.out _ _ (⟨cell_of_row _ g1 0 _ _ _ HS.out.num,cell_of_row _ g1 1 _ _ _ HS.out.num,cell_of_row _ g1 2 _ _ _ HS.out.num⟩) (fun hHeld=>?_)
 clear hK K
 try simp only [Act.put,sT,s0,s1]
 refine tj (i:=8) (oi:=⟨some 3,.assign (.tmp 39),3, "slot.go:80",#[⟨6,.data⟩,⟨7,.chain⟩,⟨0,.phase⟩,⟨1,.phase⟩,⟨2,.phase⟩,⟨3,.phase⟩,⟨4,.phase⟩,⟨5,.phase⟩,⟨6,.phase⟩,⟨7,.phase⟩],none⟩) rfl (by kernel_rfl) ?_
 try simp only [Act.put,sT,s0,s1]
 refine wpAnyH_done (by kernel_rfl) ?_ _
 clear hHeld
 generalize ((W4.setCell (aD g 0) (.int .i64 (X0:Int))).setCell (aD g 1) (.int .i64 (X1:Int)))=W5 at *
 clear e0 e1 z0 z1
 have z0:=cell_of_row W5 g 0 _ _ _ HS.out.bal
 have z1:=cell_of_row W5 g 1 _ _ _ HS.out.bal
 go_wp2_with fail
 refine (HM.out W5 (HL.out.ext HS.out.ext).o).mono ?_
 rintro e W6 ⟨rfl,hx⟩
 have HS:=qj (HS.out.mono hx)
 clear hx z0 z1
 obtain ⟨e0,e1⟩:=fr2 (HS.out.bal)
 have z0:=cell_of_row W6 g 0 _ _ _ HS.out.bal
 have z1:=cell_of_row W6 g 1 _ _ _ HS.out.bal
 have HS:=qj (HS.out.ball (X0:Int) (X1:Int))
 go_wp2_with fail
 generalize ((W6.setCell (aD g 0) (.int .i64 (X0:Int))).setCell (aD g 1) (.int .i64 (X1:Int)))=V at *
 clear e0 e1 z0 z1
 have z0:=cell_of_row V g 0 _ _ _ HS.out.bal
 have z1:=cell_of_row V g 1 _ _ _ HS.out.bal
 refine bodyPost_ret (v:=.tuple #[.agg #[.int .i64 X0,.int .i64 X1],.int .i64 X2,.int .i64 0]) (by simp [results,Tryz.results122,go_sem,z0,z1]) rfl ⟨rfl,HS.out.ext⟩
theorem zlr (y:Nat):num [y]=y:=by simp [num]
theorem ziV (A:Option Addr) (n c:Nat) (l:List Nat) (w:World) (hL:LaidS w) (hb:By w A n c l) (hm:n≤1000) :
 (cL 122 #[.slice A n c] w (.tuple #[.agg #[.int .i64 ((rcR l).1:Int),.int .i64 ((rcR l).2.1:Int)],.int .i64 ((rcR l).2.2.1:Int),.int .i64 (rcR l).2.2.2]):Prop):=by
 have hl:=hb.len
 have w6:wOk 6=true:=by rfl
 have w1:wOk 1=true:=by rfl
 have none:l.length≠8→rcR l=(0,0,0,90):=fun h=>zdi (zkn h)
 by_cases h6:n<6
 ·rw [none (by omega)]
  exact zqX A n c l w hL hb hm (zba w6 (by omega) (by omega) (by omega))
 have g0:getS l 0 6=(num (l.take 6),6,0):=by rw [zbJ w6 (by omega) (by omega) (by omega)];rfl
 by_cases h7:n<7
 ·rw [none (by omega)]
  exact zrd A n c l w hL hb hm _ g0 (zba w1 (by omega) (by omega) (by omega))
 obtain ⟨y,hy⟩:∃y,l[6]?=some y:=⟨_,List.getElem?_eq_getElem (by omega)⟩
 have g1:getS l 6 1=(y,7,0):=by
  rw [zbJ w1 (by omega) (by omega) (by omega)]
  show (num ((l.drop 6).take 1),7,0)=_
  rw [zgP hy,zlr]
 by_cases h8:n<8
 ·rw [none (by omega)]
  exact zrx A n c l w hL hb hm _ g0 _ g1 (zba w1 (by omega) (by omega) (by omega))
 obtain ⟨h,hh⟩:∃h,l[7]?=some h:=⟨_,List.getElem?_eq_getElem (by omega)⟩
 have g2:getS l 7 1=(h,8,0):=by
  rw [zbJ w1 (by omega) (by omega) (by omega)]
  show (num ((l.drop 7).take 1),8,0)=_
  rw [zgP hh,zlr]
 by_cases hn:n=8
 ·cases hr:recB (num (l.take 6):Nat) (y:Nat) (h:Nat) with
  | true =>
   have hrr:=zcm.1 hr
   rw [zhF (zlz (by omega) hy hh (by omega) (zbr.2 hrr.1))]
   exact zkH A n c l w hL hb hm _ g0 _ g1 _ g2 hn hr
  | false =>
   have hno:recR l=Option.none:=by
    by_cases hh1:1<h
    ·exact zij hh hh1
    ·refine zlk hy ?_
     cases hbal:balE (num (l.take 6):Nat) (y:Nat) with
     | false=>rfl
     | true =>
      rw [zcm.2 ⟨zbr.1 hbal,by omega⟩] at hr
      cases hr
   rw [zdi hno]
   exact zlZ A n c l w hL hb hm _ g0 _ g1 _ g2 hn hr
 ·rw [none (by omega)]
  exact zkm A n c l w hL hb hm _ g0 _ g1 _ g2 hn
end Go.Proofs.YtdbpdhlecgoclaaGreatDoor
