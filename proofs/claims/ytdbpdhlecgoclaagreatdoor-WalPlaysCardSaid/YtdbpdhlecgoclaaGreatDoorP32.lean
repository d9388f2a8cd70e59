/-
  The document's log's Read: what is read of a slot.
-/
import Derived.Test.YtdbpdhlecgoclaaGreatDoorP00
import Derived.Test.YtdbpdhlecgoclaaGreatDoorP28
import Derived.Test.YtdbpdhlecgoclaaGreatDoorP31
namespace Go.Proofs.YtdbpdhlecgoclaaGreatDoor
set_option maxRecDepth 100000
set_option maxHeartbeats 6400000
open Go Go.RowKit
theorem zot (r q:Int) (x:List Nat):(stM x r 3 q≠1∧recQ r q x={ st:=stM x r 3 q })∨(stM x r 3 q=1∧recR (mbl x r 3 q)=none∧recQ r q x={ st:=2 })∨(∃a b h,stM x r 3 q=1∧recR (mbl x r 3 q)=some (a,b,h)∧recQ r q x={ st:=1,ix:=(mfl x r 3 q 3:Nat),bx:=(a:Nat),yb:=(b:Nat),wh:=(h:Nat) }):=by
 unfold recQ
 by_cases h:stM x r 3 q=1
 ·rw [if_pos h]
  cases hr:recR (mbl x r 3 q) with
  | none=>exact .inr (.inl ⟨h,rfl,rfl⟩)
  | some v=>exact .inr (.inr ⟨v.1,v.2.1,v.2.2,h,rfl,rfl⟩)
 ·rw [if_neg h]
  exact .inl ⟨h,rfl⟩
theorem ziF (r q:Int) (x:List Nat):(stM x r 4 q≠1∧copQ r q x={ st:=stM x r 4 q })∨(stM x r 4 q=1∧bdR (mbl x r 4 q)=none∧copQ r q x={ st:=2 })∨(∃a b e,stM x r 4 q=1∧bdR (mbl x r 4 q)=some (a,b,e)∧copQ r q x={ st:=1,ix:=(mfl x r 4 q 3:Nat),bx:=(a:Nat),yb:=(b:Nat),e:=e }):=by
 unfold copQ
 by_cases h:stM x r 4 q=1
 ·rw [if_pos h]
  cases hr:bdR (mbl x r 4 q) with
  | none=>exact .inr (.inl ⟨h,rfl,rfl⟩)
  | some v=>exact .inr (.inr ⟨v.1,v.2.1,v.2.2,h,rfl,rfl⟩)
 ·rw [if_neg h]
  exact .inl ⟨h,rfl⟩
theorem zgm {w:World} {g:Nat} {p:Rec} (h:zbj w g p):w.frozen? (aD g 0)=false∧w.frozen? (aD g 1)=false∧w.frozen? (aD g 2)=false∧w.frozen? (aD g 3)=false∧w.frozen? (aD g 4)=false:=⟨frozen_of_row w g 0 _ _ h,frozen_of_row w g 1 _ _ h,frozen_of_row w g 2 _ _ h,frozen_of_row w g 3 _ _ h,frozen_of_row w g 4 _ _ h⟩
theorem zcD {w:World} {g:Nat} {f0 f1:CopL} (h:TwoL w g f0 f1):w.frozen? (aD g 0)=false∧w.frozen? (aD g 1)=false∧w.frozen? (aD g 2)=false∧w.frozen? (aD g 3)=false∧w.frozen? (aD g 4)=false∧w.frozen? (aD g 5)=false∧w.frozen? (aD g 6)=false∧w.frozen? (aD g 7)=false∧w.frozen? (aD g 8)=false∧w.frozen? (aD g 9)=false∧w.frozen? (aD g 10)=false∧w.frozen? (aD g 11)=false∧w.frozen? (aD g 12)=false∧w.frozen? (aD g 13)=false∧w.frozen? (aD g 14)=false∧w.frozen? (aD g 15)=false∧w.frozen? (aD g 16)=false∧w.frozen? (aD g 17)=false∧w.frozen? (aD g 18)=false∧w.frozen? (aD g 19)=false∧w.frozen? (aD g 20)=false∧w.frozen? (aD g 21)=false:=⟨frozen_of_row w g 0 _ _ h,frozen_of_row w g 1 _ _ h,frozen_of_row w g 2 _ _ h,frozen_of_row w g 3 _ _ h,frozen_of_row w g 4 _ _ h,frozen_of_row w g 5 _ _ h,frozen_of_row w g 6 _ _ h,frozen_of_row w g 7 _ _ h,frozen_of_row w g 8 _ _ h,frozen_of_row w g 9 _ _ h,frozen_of_row w g 10 _ _ h,frozen_of_row w g 11 _ _ h,frozen_of_row w g 12 _ _ h,frozen_of_row w g 13 _ _ h,frozen_of_row w g 14 _ _ h,frozen_of_row w g 15 _ _ h,frozen_of_row w g 16 _ _ h,frozen_of_row w g 17 _ _ h,frozen_of_row w g 18 _ _ h,frozen_of_row w g 19 _ _ h,frozen_of_row w g 20 _ _ h,frozen_of_row w g 21 _ _ h⟩
theorem ziW {w:World} {y d:Nat} {r inc:Int} {s:Nat} {q:Nat→Nat} {m:DM} (h:RLogAt w y d r inc s) (hd:RD w d q m) (n:Nat) (hn:n<24) (i:Int) (hi1:1≤i) (hi2:i≤2000000000000) (hp:(i-1)%24=(n:Int)) (hfew:m.waits.length≤1000000) :
 (cL 39 #[aD y 0,.int .i64 i] w (.tuple #[.agg (m.recM r (n:Int)),.agg ((m.copM r (2 * (n:Int))),(m.copM r (2 * (n:Int)+1)))]):Prop):=by
 have hok:=(zny hd).2.2
 have hat3:∀V,Ext w V→Calls Tryz.prog 80 #[aD y 0,.int .i64 3,.int .i64 n] V (RAtW (m.cb 3 (n:Int)) r 3 (n:Int) V):=fun V hx=>by
  have h3:=zjY hn
  have:=znC (h.ext hx) (hd.ext hx) 3 (n:Int) 1 rfl (by omega) (by rw [h3];omega) (by rw [h3];unfold sR;omega) hfew
  rw [zhL] at this
  exact this
 have hat4:∀p:Nat,p<48→∀V,Ext w V→Calls Tryz.prog 80 #[aD y 0,.int .i64 4,.int .i64 p] V (RAtW (m.fb (p:Int)) r 4 (p:Int) V):=fun p hp V hx=>by
  have h4:=zjw hp
  have:=znC (h.ext hx) (hd.ext hx) 4 (p:Int) 2 rfl (by omega) (by rw [h4];omega) (by rw [h4];unfold sF;omega) hfew
  rw [zhJ hok] at this
  exact this
 have e4:∀k:Nat,2 * (n:Int)+(k:Int)=((2 * n+k:Nat):Int):=fun k=>by omega
 have hfl:∀p:Int,(mbl (m.fb p) r 4 p).length≤1000:=fun p=>by
  refine Nat.le_trans (zjM _ _ _ _) ?_
  have h1:=(zdX hok (zai 4 p)).2
  have h2:=(zdX hok (zai 4 p+1)).2
  unfold DM.fb zql
  split
  ·simp
  ·rw [List.length_append];omega
 have HF0:=qj (hfl ((2 * n:Nat):Int))
 have HF1:=qj (hfl ((2 * n+1:Nat):Int))
 clear hfl
 have HAT3:=qj hat3
 have HA0:=qj (hat4 (2 * n) (by omega))
 have HA1:=qj (hat4 (2 * n+1) (by omega))
 have HR3:=qj (zot r (n:Int) (m.cb 3 (n:Int)))
 have HC0:=qj (ziF r ((2 * n:Nat):Int) (m.fb ((2 * n:Nat):Int)))
 have HC1:=qj (ziF r ((2 * n+1:Nat):Int) (m.fb ((2 * n+1:Nat):Int)))
 have E3:m.recM r (n:Int)=recQ r (n:Int) (m.cb 3 (n:Int)):=rfl
 have E0:m.copM r (2 * (n:Int))=copQ r ((2 * n:Nat):Int) (m.fb ((2 * n:Nat):Int)):=by unfold DM.copM;rw [show (2 * (n:Int))=((2 * n:Nat):Int) by omega]
 have E1:m.copM r (2 * (n:Int)+1)=copQ r ((2 * n+1:Nat):Int) (m.fb ((2 * n+1:Nat):Int)):=by unfold DM.copM;rw [show (2 * (n:Int)+1)=((2 * n+1:Nat):Int) by omega]
 rw [E3,E0,E1]
 generalize recQ r (n:Int) (m.cb 3 (n:Int))=P at *
 generalize copQ r ((2 * n:Nat):Int) (m.fb ((2 * n:Nat):Int))=C0 at *
 generalize copQ r ((2 * n+1:Nat):Int) (m.fb ((2 * n+1:Nat):Int))=C1 at *
 generalize m.cb 3 (n:Int)=x at *
 generalize m.fb ((2 * n:Nat):Int)=x0 at *
 generalize m.fb ((2 * n+1:Nat):Int)=x1 at *
 have HL:=qj (RLS.make w)
 have hm1:(i-1).tmod 24=(n:Int):=by rw [Int.tmod_eq_emod_of_nonneg (by omega)];exact hp
 have HE4:=qj e4
 have hn':(n:Int)<24:=by omega
 clear h hd hok hat3 hat4 hfew E3 E0 E1 e4
 go_enter Tryz.func39,Tryz.ntmps39
 go_upto_region 4 with (fail)
 generalize ((((w.alloc (.cells Zk.f 90)).alloc (.cells Zk.a 93)).alloc (.cells Zk.f 90)).alloc (.cells Zk.a 93))=W at *
 generalize w.heap.size=g at *
 go_wp2_with fail
 refine (HAT3.out _ HL.out.ext).mono ?_
 rintro e w1 ⟨A,N,c,rfl,hb,hfr,hx⟩
 have HBN:Hid (0<N→∀k o,A=some ⟨k,o,none⟩→¬k=g+1+1):=qj fun hn k o e hk=>by
  have h1:=hfr k o e hn
  have h2:=(Array.getElem?_eq_some_iff.1 HL.out.two).1
  omega
 have HL:=qj (HL.out.mono hx)
 have HB:=qj hb
 clear hb hx hfr HAT3
 have hgt0:g+1+1+1<w1.heap.size:=(Array.getElem?_eq_some_iff.1 HL.out.two).1
 have HTG:=qj (heap_alloc_new w1 (.cells #[.int .i64 (mfl x r 3 (n:Int) 0:Nat),.int .i64 (mfl x r 3 (n:Int) 1:Nat),.int .i64 (mfl x r 3 (n:Int) 2:Nat),.int .i64 (mfl x r 3 (n:Int) 3:Nat),.int .i64 (mfl x r 3 (n:Int) 4:Nat)] 44))
 have hxa:=(Ext.refl w1).alloc (.cells #[.int .i64 (mfl x r 3 (n:Int) 0:Nat),.int .i64 (mfl x r 3 (n:Int) 1:Nat),.int .i64 (mfl x r 3 (n:Int) 2:Nat),.int .i64 (mfl x r 3 (n:Int) 3:Nat),.int .i64 (mfl x r 3 (n:Int) 4:Nat)] 44)
 have HL:=qj (HL.out.mono hxa)
 have HB:=qj (HB.out.ext hxa)
 clear hxa
 go_upto_region 5 with (fail)
 generalize (w1.alloc (.cells #[.int .i64 (mfl x r 3 (n:Int) 0:Nat),.int .i64 (mfl x r 3 (n:Int) 1:Nat),.int .i64 (mfl x r 3 (n:Int) 2:Nat),.int .i64 (mfl x r 3 (n:Int) 3:Nat),.int .i64 (mfl x r 3 (n:Int) 4:Nat)] 44))=V2 at *
 generalize w1.heap.size=gt at *
 have HGT:=qj hgt0
 generalize stM x r 3 (n:Int)=st at *
 generalize mfl x r 3 (n:Int)=fl at *
 generalize mbl x r 3 (n:Int)=B at *
 clear hgt0
 obtain ⟨p0,p1,p2,p3,p4⟩:=HL.out.rec_.cells
 obtain ⟨q0,q1,q2,q3,q4⟩:=zgm HL.out.rec_
 have HL:=qj (HL.out.recSt st)
 have hmS:Mod (fun k=>k=g+1+1) V2 (V2.setCell (aD (g+1+1) 0) st):=(Mod.refl (fun k=>k=g+1+1) V2).setCell (p:=⟨g+1+1,0,none⟩) (.inl rfl) _
 have HTG:=qj (zah HTG.out hmS (by have:=HGT.out;omega))
 have HB:=qj (HB.out.modW hmS HBN.out)
 clear hmS
 go_upto_if 32 with (fail)
 clear p0 p1 p2 p3 p4 q0 q1 q2 q3 q4
 generalize (V2.setCell (aD (g+1+1) 0) st)=V at *
 go_cut [] (fun wx=>Hid (RLS w wx g P {} {})∧Hid (∃a0 a1 a2 a3 a4,wx.heap[gt]?=some (.cells #[a0,a1,a2,a3,a4] 44 (0,0))))
 case first =>
  rcases HR3.out with ⟨hst,hP⟩ | ⟨hst,hr,hP⟩ | ⟨a,b,h,hst,hr,hP⟩
  ·have e1:((st:Int) == 1)=false:=by simp;omega
   have HPP:=qj hP
   clear hP hst
   go_wp2_with fail
   go_meet
   exact ⟨qj (by rw [HPP.out];exact HL.out),qj ⟨_,_,_,_,_,HTG.out⟩⟩
  ·have e1:((st:Int) == 1)=true:=by rw [hst];rfl
   have HPR:Hid (∀V,By V A N c B→(cL 81 #[.slice A N c] V (.tuple #[.agg Zk.e,.int .i64 0,.int .i64 90]):Prop)):=qj fun V hb=>by
    have:=zhY A N c B V hb
    rw [zdi hr] at this
    exact this
   have HPP:=qj (And.intro hst hP)
   clear hP hst hr
   go_wp2_with fail
   refine (HPR.out _ HB.out).mono ?_
   rintro e w5 ⟨rfl,hx⟩
   have hxa:=hx.alloc (.cells Zk.e 38)
   have HL3:=qj (HL.out.mono hxa)
   have HTG3:=qj (zaa hxa HTG.out)
   clear hx hxa
   obtain ⟨p0,p1,p2,p3,p4⟩:=HL3.out.rec_.cells
   obtain ⟨q0,q1,q2,q3,q4⟩:=zgm HL3.out.rec_
   have HL4:=qj (HL3.out.recSt 2)
   have HTG4:=qj (zah HTG3.out ((Mod.refl (fun k=>k=g+1+1) _).setCell (p:=⟨g+1+1,0,none⟩) (.inl rfl) (.int .u8 ((2:Nat):Int))) (by have:=HGT.out;omega))
   go_wp2_with fail
   go_meet
   exact ⟨qj (by rw [HPP.out.2];exact HL4.out),qj ⟨_,_,_,_,_,HTG4.out⟩⟩
  ·have e1:((st:Int) == 1)=true:=by rw [hst];rfl
   have HPR:Hid (∀V,By V A N c B→(cL 81 #[.slice A N c] V (.tuple #[.agg #[.int .i64 a,.int .i64 b],.int .i64 h,.int .i64 0]):Prop)):=qj fun V hb=>by
    have:=zhY A N c B V hb
    rw [zhF hr] at this
    exact this
   have HPP:=qj (And.intro hst hP)
   clear hP hst hr
   go_wp2_with fail
   refine (HPR.out _ HB.out).mono ?_
   rintro e w5 ⟨rfl,hx⟩
   have hxa:=hx.alloc (.cells #[.int .i64 a,.int .i64 b] 38)
   obtain ⟨b0,b1⟩:=zaM (heap_alloc_new w5 (.cells #[.int .i64 a,.int .i64 b] 38))
   have HL3:=qj (HL.out.mono hxa)
   have HTG3:=qj (zaa hxa HTG.out)
   clear hx hxa
   obtain ⟨p0,p1,p2,p3,p4⟩:=HL3.out.rec_.cells
   obtain ⟨q0,q1,q2,q3,q4⟩:=zgm HL3.out.rec_
   have t3:(w5.alloc (.cells #[.int .i64 a,.int .i64 b] 38)).cell? (aD gt 3)=some (.int .i64 (fl 3:Int)):=cell_of_row _ gt 3 _ _ _ HTG3.out
   have HL4:=qj (HL3.out.recPut { st:=st,ix:=(fl 3:Int),bx:=(a:Int),yb:=(b:Int),wh:=(h:Int) })
   have HTG4:=qj (zah HTG3.out (((((((Mod.refl (fun k=>k=g+1+1) (w5.alloc (.cells #[.int .i64 a,.int .i64 b] 38))).setCell (p:=⟨g+1+1,0,none⟩) (.inl rfl) st).setCell (p:=⟨g+1+1,1,none⟩) (.inl rfl) (.int .i64 (fl 3:Int))).setCell (p:=⟨g+1+1,2,none⟩) (.inl rfl) (.int .i64 (a:Int))).setCell (p:=⟨g+1+1,3,none⟩) (.inl rfl) (.int .i64 (b:Int))).setCell (p:=⟨g+1+1,4,none⟩) (.inl rfl) (.int .i64 (h:Int)))) (by have:=HGT.out;omega))
   go_wp2_with fail
   go_meet
   exact ⟨qj (by rw [HPP.out.2,show ({ st:=1,ix:=(fl 3:Int),bx:=(a:Int),yb:=(b:Int),wh:=(h:Int) }:Rec)={ st:=st,ix:=(fl 3:Int),bx:=(a:Int),yb:=(b:Int),wh:=(h:Int) } by rw [HPP.out.1]];exact HL4.out),qj ⟨_,_,_,_,_,HTG4.out⟩⟩
 case rest =>
 obtain ⟨HL,HTG⟩:=hcut
 clear HB HR3 HBN
 go_wp2_with fail
 go_loopw [15] (fun v wr=>∃k:Nat,k≤2∧v=.int .i64 (k:Int)∧Hid (RLS w wr g P (if 0<k then C0 else {}) (if 1<k then C1 else {}))∧Hid (∃a0 a1 a2 a3 a4,wr.heap[gt]?=some (.cells #[a0,a1,a2,a3,a4] 44 (0,0)))) (fun v _=>2-(intOf v).toNat)
 case atStart=>exact ⟨0,by omega,rfl,HL,HTG⟩
 case round =>
  obtain ⟨k,hk,rfl,HL,HTG⟩:=hrel
  rcases (show k=0∨k=1∨k=2 by omega) with rfl | rfl | rfl
  ·have HL:Hid (RLS w wr g P {} {}):=HL
   have hpl:=HE4.out 0
   go_wp2_with fail
   refine (HA0.out _ HL.out.ext).mono ?_
   rintro e w1 ⟨A,N,c,rfl,hb,hfr,hx⟩
   have hw3:=(Array.getElem?_eq_some_iff.1 HL.out.two).1
   have HBN:Hid (0<N→∀k o,A=some ⟨k,o,none⟩→¬(k=gt∨k=g+1+1+1)):=qj fun hn k o e hk=>by
    have h1:=hfr k o e hn
    obtain ⟨_,_,_,_,_,h2⟩:=HTG.out
    have h2:=(Array.getElem?_eq_some_iff.1 h2).1
    omega
   have HL:=qj (HL.out.mono hx)
   obtain ⟨a0,a1,a2,a3,a4,htg⟩:=HTG.out
   have htg:=zaa hx htg
   obtain ⟨⟨z0,z1,z2,z3,z4⟩,o0,o1,o2,o3,o4⟩:=zac htg
   generalize stM x0 r 4 ((2 * n:Nat):Int)=st at *
   generalize mfl x0 r 4 ((2 * n:Nat):Int)=fl at *
   generalize mbl x0 r 4 ((2 * n:Nat):Int)=B at *
   have HTG:=qj (zeJ (a0:=.int .i64 (fl 0:Int)) (a1:=.int .i64 (fl 1:Int)) (a2:=.int .i64 (fl 2:Int)) (a3:=.int .i64 (fl 3:Int)) (a4:=.int .i64 (fl 4:Int)) htg)
   have hmt:=zfU (w:=w1) (b:=gt) (.int .i64 (fl 0:Int)) (.int .i64 (fl 1:Int)) (.int .i64 (fl 2:Int)) (.int .i64 (fl 3:Int)) (.int .i64 (fl 4:Int))
   have hxt:=zez (b:=gt) HL.out.ext (by have:=HGT.out;have:=HL.out.low;omega) (.int .i64 (fl 0:Int)) (.int .i64 (fl 1:Int)) (.int .i64 (fl 2:Int)) (.int .i64 (fl 3:Int)) (.int .i64 (fl 4:Int))
   have HL:=qj (HL.out.modT hmt HGT.out hxt)
   have HB:=qj (hb.modW hmt fun hn g o e hk=>HBN.out hn g o e (.inl hk))
   clear hb hfr hx htg hmt hxt hw3
   go_upto_region 15 with (fail)
   clear z0 z1 z2 z3 z4 o0 o1 o2 o3 o4
   generalize ((SW.mk w1 gt [.int .i64 (fl 0:Int),.int .i64 (fl 1:Int),.int .i64 (fl 2:Int),.int .i64 (fl 3:Int),.int .i64 (fl 4:Int)]:World))=V2 at *
   have HL3:=HL
   obtain ⟨f0,f1,f2,f3,f4,f5,f6,f7,f8,f9,f10⟩:=HL3.out.two.first
   obtain ⟨m0,m1,m2,m3,m4,m5,m6,m7,m8,m9,m10,_⟩:=zcD HL.out.two
   have HL:=qj (HL.out.copSt0 st)
   have hmS:Mod (fun k=>k=g+1+1+1) V2 (V2.setCell (aD (g+1+1+1) 0) st):=(Mod.refl (fun k=>k=g+1+1+1) V2).setCell (p:=⟨g+1+1+1,0,none⟩) (.inl rfl) _
   have HTG:=qj (zah HTG.out hmS (by have:=HGT.out;omega))
   have HB:=qj (HB.out.modW hmS fun hn g o e hk=>HBN.out hn g o e (.inr hk))
   clear hmS HL3
   go_upto_if 67 with (fail)
   clear f0 f1 f2 f3 f4 f5 f6 f7 f8 f9 f10 m0 m1 m2 m3 m4 m5 m6 m7 m8 m9 m10
   generalize (V2.setCell (aD (g+1+1+1) 0) st)=V at *
   rcases HC0.out with ⟨hst,hP⟩ | ⟨hst,hr,hP⟩ | ⟨a,b,en,hst,hr,hP⟩
   ·have e1:((st:Int) == 1)=false:=by simp;omega
    have HPP:=qj hP
    clear hP hst
    go_wp2_with fail
    go_roundw
    case rel=>exact ⟨1,by omega,by go_num,qj (show RLS w _ g P C0 {} from by rw [HPP.out];exact HL.out),qj ⟨_,_,_,_,_,HTG.out⟩⟩
    case measure=>simp [intOf]
   ·have e1:((st:Int) == 1)=true:=by rw [hst];rfl
    have HPR:Hid (∀V,By V A N c B→(cL 82 #[.slice A N c] V (.tuple #[.agg Zk.e,.agg Zk.d,.int .i64 90]):Prop)):=qj fun V hb=>by
     have:=zcV A N c B V hb (by have:=hb.len;have:=HF0.out;omega)
     rw [zec hr] at this
     exact this
    have HPP:=qj (And.intro hst hP)
    clear hP hst hr
    go_wp2_with fail
    refine (HPR.out _ HB.out).mono ?_
    rintro e w5 ⟨rfl,hx⟩
    have hxa:=(hx.alloc (.cells Zk.e 38)).alloc (.cells Zk.d 42)
    have HL3:=qj (HL.out.mono hxa)
    have HTG3:=qj (zaa hxa HTG.out)
    clear hx hxa
    obtain ⟨f0,f1,f2,f3,f4,f5,f6,f7,f8,f9,f10⟩:=HL3.out.two.first
    obtain ⟨m0,m1,m2,m3,m4,m5,m6,m7,m8,m9,m10,_⟩:=zcD HL3.out.two
    have HL4:=qj (HL3.out.copSt0 2)
    have HTG4:=qj (zah HTG3.out ((Mod.refl (fun k=>k=g+1+1+1) _).setCell (p:=⟨g+1+1+1,0,none⟩) (.inl rfl) (.int .u8 ((2:Nat):Int))) (by have:=HGT.out;omega))
    go_wp2_with fail
    go_roundw
    case rel=>exact ⟨1,by omega,by go_num,qj (show RLS w _ g P C0 {} from by rw [HPP.out.2];exact HL4.out),qj ⟨_,_,_,_,_,HTG4.out⟩⟩
    case measure=>simp [intOf]
   ·have e1:((st:Int) == 1)=true:=by rw [hst];rfl
    have HPR:Hid (∀V,By V A N c B→(cL 82 #[.slice A N c] V (.tuple #[.agg #[.int .i64 a,.int .i64 b],.agg en,.int .i64 0]):Prop)):=qj fun V hb=>by
     have:=zcV A N c B V hb (by have:=hb.len;have:=HF0.out;omega)
     rw [zfc hr] at this
     exact this
    have HPP:=qj (And.intro hst hP)
    clear hP hst hr
    go_wp2_with fail
    refine (HPR.out _ HB.out).mono ?_
    rintro e w5 ⟨rfl,hx⟩
    have hxb:=(Ext.refl (w5.alloc (.cells #[.int .i64 a,.int .i64 b] 38))).alloc (.cells en 42)
    have hxa:=(hx.alloc (.cells #[.int .i64 a,.int .i64 b] 38)).trans hxb
    obtain ⟨b0,b1⟩:=zaM (zaa hxb (heap_alloc_new w5 (.cells #[.int .i64 a,.int .i64 b] 38)))
    have hen:=heap_alloc_new (w5.alloc (.cells #[.int .i64 a,.int .i64 b] 38)) (.cells en 42)
    rw [World.size_alloc] at hen
    obtain ⟨v0,v1,v2,v3,v4,v5,v6⟩:=cr7 (hen)
    have HL3:=qj (HL.out.mono hxa)
    have HTG3:=qj (zaa hxa HTG.out)
    clear hx hxa hxb hen
    obtain ⟨f0,f1,f2,f3,f4,f5,f6,f7,f8,f9,f10⟩:=HL3.out.two.first
    obtain ⟨m0,m1,m2,m3,m4,m5,m6,m7,m8,m9,m10,_⟩:=zcD HL3.out.two
    have t3:((w5.alloc (.cells #[.int .i64 a,.int .i64 b] 38)).alloc (.cells en 42)).cell? (aD gt 3)=some (.int .i64 (fl 3:Int)):=cell_of_row _ gt 3 _ _ _ HTG3.out
    have HL4:=qj (HL3.out.copPut0 { st:=st,ix:=(fl 3:Int),bx:=(a:Int),yb:=(b:Int),e:=en })
    have HTG4:=qj (zah HTG3.out (((((((((((((Mod.refl (fun k=>k=g+1+1+1) ((w5.alloc (.cells #[.int .i64 a,.int .i64 b] 38)).alloc (.cells en 42))).setCell (p:=⟨g+1+1+1,0,none⟩) (.inl rfl) st).setCell (p:=⟨g+1+1+1,1,none⟩) (.inl rfl) (.int .i64 (fl 3:Int))).setCell (p:=⟨g+1+1+1,2,none⟩) (.inl rfl) (.int .i64 (a:Int))).setCell (p:=⟨g+1+1+1,3,none⟩) (.inl rfl) (.int .i64 (b:Int))).setCell (p:=⟨g+1+1+1,4,none⟩) (.inl rfl) en.k).setCell (p:=⟨g+1+1+1,5,none⟩) (.inl rfl) en.cl).setCell (p:=⟨g+1+1+1,6,none⟩) (.inl rfl) en.sq).setCell (p:=⟨g+1+1+1,7,none⟩) (.inl rfl) en.ok).setCell (p:=⟨g+1+1+1,8,none⟩) (.inl rfl) en.key).setCell (p:=⟨g+1+1+1,9,none⟩) (.inl rfl) en.old).setCell (p:=⟨g+1+1+1,10,none⟩) (.inl rfl) en.val)) (by have:=HGT.out;omega))
    go_wp2_with fail
    go_roundw
    case rel=>exact ⟨1,by omega,by go_num,qj (show RLS w _ g P C0 {} from by rw [HPP.out.2,show ({ st:=1,ix:=(fl 3:Int),bx:=(a:Int),yb:=(b:Int),e:=en }:CopL)={ st:=st,ix:=(fl 3:Int),bx:=(a:Int),yb:=(b:Int),e:=en } by rw [HPP.out.1]];exact HL4.out),qj ⟨_,_,_,_,_,HTG4.out⟩⟩
    case measure=>simp [intOf]
  ·have HL:Hid (RLS w wr g P C0 {}):=HL
   have hpl:=HE4.out 1
   go_wp2_with fail
   refine (HA1.out _ HL.out.ext).mono ?_
   rintro e w1 ⟨A,N,c,rfl,hb,hfr,hx⟩
   have hw3:=(Array.getElem?_eq_some_iff.1 HL.out.two).1
   have HBN:Hid (0<N→∀k o,A=some ⟨k,o,none⟩→¬(k=gt∨k=g+1+1+1)):=qj fun hn k o e hk=>by
    have h1:=hfr k o e hn
    obtain ⟨_,_,_,_,_,h2⟩:=HTG.out
    have h2:=(Array.getElem?_eq_some_iff.1 h2).1
    omega
   have HL:=qj (HL.out.mono hx)
   obtain ⟨a0,a1,a2,a3,a4,htg⟩:=HTG.out
   have htg:=zaa hx htg
   obtain ⟨⟨z0,z1,z2,z3,z4⟩,o0,o1,o2,o3,o4⟩:=zac htg
   generalize stM x1 r 4 ((2 * n+1:Nat):Int)=st at *
   generalize mfl x1 r 4 ((2 * n+1:Nat):Int)=fl at *
   generalize mbl x1 r 4 ((2 * n+1:Nat):Int)=B at *
   have HTG:=qj (zeJ (a0:=.int .i64 (fl 0:Int)) (a1:=.int .i64 (fl 1:Int)) (a2:=.int .i64 (fl 2:Int)) (a3:=.int .i64 (fl 3:Int)) (a4:=.int .i64 (fl 4:Int)) htg)
   have hmt:=zfU (w:=w1) (b:=gt) (.int .i64 (fl 0:Int)) (.int .i64 (fl 1:Int)) (.int .i64 (fl 2:Int)) (.int .i64 (fl 3:Int)) (.int .i64 (fl 4:Int))
   have hxt:=zez (b:=gt) HL.out.ext (by have:=HGT.out;have:=HL.out.low;omega) (.int .i64 (fl 0:Int)) (.int .i64 (fl 1:Int)) (.int .i64 (fl 2:Int)) (.int .i64 (fl 3:Int)) (.int .i64 (fl 4:Int))
   have HL:=qj (HL.out.modT hmt HGT.out hxt)
   have HB:=qj (hb.modW hmt fun hn g o e hk=>HBN.out hn g o e (.inl hk))
   clear hb hfr hx htg hmt hxt hw3
   go_upto_region 15 with (fail)
   clear z0 z1 z2 z3 z4 o0 o1 o2 o3 o4
   generalize ((SW.mk w1 gt [.int .i64 (fl 0:Int),.int .i64 (fl 1:Int),.int .i64 (fl 2:Int),.int .i64 (fl 3:Int),.int .i64 (fl 4:Int)]:World))=V2 at *
   have HL3:=HL
   obtain ⟨f0,f1,f2,f3,f4,f5,f6,f7,f8,f9,f10⟩:=HL3.out.two.second
   obtain ⟨_,_,_,_,_,_,_,_,_,_,_,m0,m1,m2,m3,m4,m5,m6,m7,m8,m9,m10⟩:=zcD HL.out.two
   have HL:=qj (HL.out.copSt1 st)
   have hmS:Mod (fun k=>k=g+1+1+1) V2 (V2.setCell (aD (g+1+1+1) 11) st):=(Mod.refl (fun k=>k=g+1+1+1) V2).setCell (p:=⟨g+1+1+1,11,none⟩) (.inl rfl) _
   have HTG:=qj (zah HTG.out hmS (by have:=HGT.out;omega))
   have HB:=qj (HB.out.modW hmS fun hn g o e hk=>HBN.out hn g o e (.inr hk))
   clear hmS HL3
   go_upto_if 67 with (fail)
   clear f0 f1 f2 f3 f4 f5 f6 f7 f8 f9 f10 m0 m1 m2 m3 m4 m5 m6 m7 m8 m9 m10
   generalize (V2.setCell (aD (g+1+1+1) 11) st)=V at *
   rcases HC1.out with ⟨hst,hP⟩ | ⟨hst,hr,hP⟩ | ⟨a,b,en,hst,hr,hP⟩
   ·have e1:((st:Int) == 1)=false:=by simp;omega
    have HPP:=qj hP
    clear hP hst
    go_wp2_with fail
    go_roundw
    case rel=>exact ⟨2,by omega,by go_num,qj (show RLS w _ g P C0 C1 from by rw [HPP.out];exact HL.out),qj ⟨_,_,_,_,_,HTG.out⟩⟩
    case measure=>simp [intOf]
   ·have e1:((st:Int) == 1)=true:=by rw [hst];rfl
    have HPR:Hid (∀V,By V A N c B→(cL 82 #[.slice A N c] V (.tuple #[.agg Zk.e,.agg Zk.d,.int .i64 90]):Prop)):=qj fun V hb=>by
     have:=zcV A N c B V hb (by have:=hb.len;have:=HF1.out;omega)
     rw [zec hr] at this
     exact this
    have HPP:=qj (And.intro hst hP)
    clear hP hst hr
    go_wp2_with fail
    refine (HPR.out _ HB.out).mono ?_
    rintro e w5 ⟨rfl,hx⟩
    have hxa:=(hx.alloc (.cells Zk.e 38)).alloc (.cells Zk.d 42)
    have HL3:=qj (HL.out.mono hxa)
    have HTG3:=qj (zaa hxa HTG.out)
    clear hx hxa
    obtain ⟨f0,f1,f2,f3,f4,f5,f6,f7,f8,f9,f10⟩:=HL3.out.two.second
    obtain ⟨_,_,_,_,_,_,_,_,_,_,_,m0,m1,m2,m3,m4,m5,m6,m7,m8,m9,m10⟩:=zcD HL3.out.two
    have HL4:=qj (HL3.out.copSt1 2)
    have HTG4:=qj (zah HTG3.out ((Mod.refl (fun k=>k=g+1+1+1) _).setCell (p:=⟨g+1+1+1,11,none⟩) (.inl rfl) (.int .u8 ((2:Nat):Int))) (by have:=HGT.out;omega))
    go_wp2_with fail
    go_roundw
    case rel=>exact ⟨2,by omega,by go_num,qj (show RLS w _ g P C0 C1 from by rw [HPP.out.2];exact HL4.out),qj ⟨_,_,_,_,_,HTG4.out⟩⟩
    case measure=>simp [intOf]
   ·have e1:((st:Int) == 1)=true:=by rw [hst];rfl
    have HPR:Hid (∀V,By V A N c B→(cL 82 #[.slice A N c] V (.tuple #[.agg #[.int .i64 a,.int .i64 b],.agg en,.int .i64 0]):Prop)):=qj fun V hb=>by
     have:=zcV A N c B V hb (by have:=hb.len;have:=HF1.out;omega)
     rw [zfc hr] at this
     exact this
    have HPP:=qj (And.intro hst hP)
    clear hP hst hr
    go_wp2_with fail
    refine (HPR.out _ HB.out).mono ?_
    rintro e w5 ⟨rfl,hx⟩
    have hxb:=(Ext.refl (w5.alloc (.cells #[.int .i64 a,.int .i64 b] 38))).alloc (.cells en 42)
    have hxa:=(hx.alloc (.cells #[.int .i64 a,.int .i64 b] 38)).trans hxb
    obtain ⟨b0,b1⟩:=zaM (zaa hxb (heap_alloc_new w5 (.cells #[.int .i64 a,.int .i64 b] 38)))
    have hen:=heap_alloc_new (w5.alloc (.cells #[.int .i64 a,.int .i64 b] 38)) (.cells en 42)
    rw [World.size_alloc] at hen
    obtain ⟨v0,v1,v2,v3,v4,v5,v6⟩:=cr7 (hen)
    have HL3:=qj (HL.out.mono hxa)
    have HTG3:=qj (zaa hxa HTG.out)
    clear hx hxa hxb hen
    obtain ⟨f0,f1,f2,f3,f4,f5,f6,f7,f8,f9,f10⟩:=HL3.out.two.second
    obtain ⟨_,_,_,_,_,_,_,_,_,_,_,m0,m1,m2,m3,m4,m5,m6,m7,m8,m9,m10⟩:=zcD HL3.out.two
    have t3:((w5.alloc (.cells #[.int .i64 a,.int .i64 b] 38)).alloc (.cells en 42)).cell? (aD gt 3)=some (.int .i64 (fl 3:Int)):=cell_of_row _ gt 3 _ _ _ HTG3.out
    have HL4:=qj (HL3.out.copPut1 { st:=st,ix:=(fl 3:Int),bx:=(a:Int),yb:=(b:Int),e:=en })
    have HTG4:=qj (zah HTG3.out (((((((((((((Mod.refl (fun k=>k=g+1+1+1) ((w5.alloc (.cells #[.int .i64 a,.int .i64 b] 38)).alloc (.cells en 42))).setCell (p:=⟨g+1+1+1,11,none⟩) (.inl rfl) st).setCell (p:=⟨g+1+1+1,12,none⟩) (.inl rfl) (.int .i64 (fl 3:Int))).setCell (p:=⟨g+1+1+1,13,none⟩) (.inl rfl) (.int .i64 (a:Int))).setCell (p:=⟨g+1+1+1,14,none⟩) (.inl rfl) (.int .i64 (b:Int))).setCell (p:=⟨g+1+1+1,15,none⟩) (.inl rfl) en.k).setCell (p:=⟨g+1+1+1,16,none⟩) (.inl rfl) en.cl).setCell (p:=⟨g+1+1+1,17,none⟩) (.inl rfl) en.sq).setCell (p:=⟨g+1+1+1,18,none⟩) (.inl rfl) en.ok).setCell (p:=⟨g+1+1+1,19,none⟩) (.inl rfl) en.key).setCell (p:=⟨g+1+1+1,20,none⟩) (.inl rfl) en.old).setCell (p:=⟨g+1+1+1,21,none⟩) (.inl rfl) en.val)) (by have:=HGT.out;omega))
    go_wp2_with fail
    go_roundw
    case rel=>exact ⟨2,by omega,by go_num,qj (show RLS w _ g P C0 C1 from by rw [HPP.out.2,show ({ st:=1,ix:=(fl 3:Int),bx:=(a:Int),yb:=(b:Int),e:=en }:CopL)={ st:=st,ix:=(fl 3:Int),bx:=(a:Int),yb:=(b:Int),e:=en } by rw [HPP.out.1]];exact HL4.out),qj ⟨_,_,_,_,_,HTG4.out⟩⟩
    case measure=>simp [intOf]
  ·have HL:Hid (RLS w wr g P C0 C1):=HL
   go_upto_region 21 with (fail)
   have HL:=qj (HL.out.mono (Ext.refl wr).drew)
   have i3:(Tryz.prog.info? 90).map (·.size)=some 5:=by kernel_rfl
   have i4:(Tryz.prog.info? 93).map (·.size)=some 22:=by kernel_rfl
   have HI:=qj (And.intro i3 i4)
   clear i3 i4
   refine wp_region_held_drew (S:=fun w'=>w'.heap[g+1+1]?=some (.cells P 90 (0,0))∧w'.heap[g+1+1+1]?=some (.cells (C0,C1) 93 (0,0))) (by kernel_rfl) ⟨HL.out.rec_,HL.out.two⟩ (fun hHeld=>?_)
   refine tk (i:=0) (oi:=⟨some 87,.load 90 (.tmp 7),90, "ref.go:85",#[],none⟩) (v:=.agg P) rfl (by kernel_rfl) (yieldsIf_load_mid (by rfl) 90 (.tmp 7) rfl (g+1+1) 0 rfl P _ (fun w hw=>zau P hw.1 0) Tryz.underlying90 rfl (by kernel_rfl)) ?_
   try simp only [Act.put,sT,s0,s1]
   refine tk (i:=1) (oi:=⟨some 88,.load 93 (.tmp 8),93, "ref.go:85",#[⟨2,.gcOnly .lateStores⟩],none⟩) (v:=.agg (C0,C1)) rfl (by kernel_rfl) (yieldsIf_load_mid (by rfl) 93 (.tmp 8) rfl (g+1+1+1) 0 rfl (C0,C1) _ (fun w hw=>zau (C0,C1) hw.2 0) Tryz.underlying93 rfl (by kernel_rfl)) ?_
   try simp only [Act.put,sT,s0,s1]
   generalize wr.drew=w5 at *
   refine wpAnyH_ready (rs:=[2]) (by kernel_rfl) (by simp) ?_
   refine AllReadyH.cons (o:=⟨none,.store 90 (.tmp 4) (.tmp 87),0, "ref.go:85",#[⟨0,.data⟩,⟨0,.phase⟩,⟨1,.textOnly .lateStores⟩],none⟩) rfl (fun K hK=>?_) AllReadyH.nil
   clear hHeld
   rw [if_pos (by rfl)]
   refine wp_store_mid 90 (.tmp 4) (.tmp 87) rfl g 0 P rfl rfl (zbZ HL.out.z4 0 5 (by simp)) HI.out.1 (by simp [Value.oneCell']) ?_
   refine hK.out _ _ ⟨(HL.out.put4 _).1,(HL.out.put4 _).2.1⟩ (fun hHeld=>?_)
   clear hK K
   simp only [Act.put]
   refine wpAnyH_ready (rs:=[3]) (by kernel_rfl) (by simp) ?_
   refine AllReadyH.cons (o:=⟨none,.store 93 (.tmp 5) (.tmp 88),0, "ref.go:85",#[⟨1,.data⟩,⟨2,.chain⟩,⟨0,.phase⟩,⟨1,.phase⟩,⟨2,.phase⟩],none⟩) rfl (fun K hK=>?_) AllReadyH.nil
   clear hHeld
   rw [if_pos (by rfl)]
   refine wp_store_mid 93 (.tmp 5) (.tmp 88) rfl (g+1) 0 (C0,C1) rfl rfl (zbZ (HL.out.put4 _).2.2.1 0 22 (by simp)) HI.out.2 (by simp [Value.oneCell']) ?_
   refine hK.out _ _ ⟨(HL.out.put5 _ _).1,(HL.out.put5 _ _).2.1⟩ (fun hHeld=>?_)
   clear hK K
   simp only [Act.put]
   refine wpAnyH_done (by kernel_rfl) ?_ _
   clear hHeld
   obtain ⟨hr3,hr4,hx⟩:=HL.out.fin HI.out.1 HI.out.2
   go_wp2_with fail
   refine bodyPost_ret (v:=.tuple #[.agg P,.agg (C0,C1)]) (zgv Tryz.results39 rfl rfl hr3 hr4) rfl ⟨rfl,hx⟩
theorem zgp {V:World} {a:Act} {g:Nat} {C E:Int} {a0 a1 a2 a3 a4 a5 a6 a7 a8 a9 a10:Value} {R:Ending→World→Prop} (h4:a.tmps.getD 4 undef=.int .u8 C) (h5:a.tmps.getD 5 undef=.pointer (some ⟨g,0,none⟩)) (h6:a.tmps.getD 6 undef=.int .i64 E) (hd:a.defers=[])
 (hT:V.heap[g]?=some (.cells #[a0,a1,a2,a3,a4,a5,a6,a7,a8,a9,a10] 115 (0,0))) (hR:R (.returned (.tuple #[.int .u8 C,.agg #[a0,a1,a2,a3,a4,a5,a6,a7,a8,a9,a10],E])) V):bodyPost Tryz.prog Tryz.f53 R .ret a V:=by
 obtain ⟨t0,t1,t2,t3,t4,t5,t6,t7,t8,t9,t10⟩:=zam hT
 have h4':a.tmps[4]?.getD undef=.int .u8 C:=by simpa using h4
 have h5':a.tmps[5]?.getD undef=.pointer (some ⟨g,0,none⟩):=by simpa using h5
 have h6':a.tmps[6]?.getD undef=.int .i64 E:=by simpa using h6
 refine bodyPost_ret (v:=.tuple #[.int .u8 C,.agg #[a0,a1,a2,a3,a4,a5,a6,a7,a8,a9,a10],E]) ?_ hd hR
 simp [results,Tryz.results53,go_sem,h4',h5',h6',t0,t1,t2,t3,t4,t5,t6,t7,t8,t9,t10]
theorem zpU {w:World} {y d:Nat} {r inc:Int} {s:Nat} {q:Nat→Nat} {m:DM} (h:RLogAt w y d r inc s) (hd:RD w d q m) (hs:s≤1099511627752) (i:Int) (hfew:m.waits.length≤1000000) (C:Nat) (R:Rpt) (E:Int) (hC:m.lkC s r i=C) (hR:m.lkR s r i=R) (hE:m.lkE s i=E) (hlv:decide ((s:Int)+1≤i∧i≤(s:Int)+24)=false) :
 (cL 53 #[aD y 0,.int .i64 i] w (.tuple #[C,.agg R,.int .i64 E]):Prop):=by
 have HZ:=qj (heap_alloc_new w (.cells Zk.b 115))
 have hx0:=(Ext.refl w).alloc (.cells Zk.b 115)
 have hlt:w.heap.size<(w.alloc (.cells Zk.b 115)).heap.size:=by simp
 have HLT:=qj hlt
 have HX:=qj hx0
 have HHAS:=qj (zfq (h.ext hx0) hs i)
 have H:=qj h
 have HD:=qj hd
 have HCRE:=qj (And.intro hC (And.intro hR hE))
 have HFW:=qj hfew
 have HS:=qj hs
 rw [hlv] at HHAS
 clear hx0 h hd hC hR hE hfew hlt hs
 have hz:E=2∧C=0∧R={}:=by
  have h0:¬((s:Int)+1≤i∧i≤(s:Int)+24):=of_decide_eq_false hlv
  obtain ⟨h1,h2,h3⟩:=HCRE.out
  have e:m.lkE s i=2:=by unfold DM.lkE orI zdK;rw [if_neg (by rw [if_neg h0];omega),if_neg h0]
  exact ⟨by rw [←h3,e],by rw [←h1];unfold DM.lkC;rw [if_neg (by rw [e];omega)],by rw [←h2];unfold DM.lkR;rw [if_neg (by rw [e];omega)]⟩
 obtain ⟨rfl,rfl,rfl⟩:=hz
 clear hlv HCRE
 go_enter Tryz.func53,Tryz.ntmps53
 go_upto_region 1 with (fail)
 generalize (w.alloc (.cells Zk.b 115))=W at *
 generalize hg:w.heap.size=g at *
 have HG:=qj hg
 clear hg
 obtain ⟨z0,z1,z2,z3,z4,z5,z6,z7,z8,z9,z10⟩:=zam HZ.out
 obtain ⟨m0,m1,m2,m3,m4,m5,m6,m7,m8,m9,m10⟩:=zaL HZ.out
 go_wp2_with fail
 refine HHAS.out.mono ?_
 rintro e w1 ⟨rfl,rfl⟩
 go_wp2_with fail
 have hT:=zdg HZ.out (.int .i64 0) (.int .u8 0) (.int .i64 0) (.int .i64 0) (.int .u8 0) (.int .i64 0) (.int .i64 0) (.int .u8 0) (.string ⟨#[]⟩) (.string ⟨#[]⟩) (.string ⟨#[]⟩)
 have hE:=zdh HX.out (show w.heap.size≤g by have:=HG.out;omega) (.int .i64 0) (.int .u8 0) (.int .i64 0) (.int .i64 0) (.int .u8 0) (.int .i64 0) (.int .i64 0) (.int .u8 0) (.string ⟨#[]⟩) (.string ⟨#[]⟩) (.string ⟨#[]⟩)
 generalize ((SW.mk W g Zk.j:World))=T at *
 exact zgp rfl rfl rfl rfl hT ⟨rfl,hE⟩
theorem zlR {w:World} {y d:Nat} {r inc:Int} {s:Nat} {q:Nat→Nat} {m:DM} (h:RLogAt w y d r inc s) (hd:RD w d q m) (hs:s≤1099511627752) (i:Int) (hfew:m.waits.length≤1000000) (C:Nat) (R:Rpt) (E:Int) (hC:m.lkC s r i=C) (hR:m.lkR s r i=R) (hE:m.lkE s i=E) (hlv:decide ((s:Int)+1≤i∧i≤(s:Int)+24)=true) (hup:m.up=false) :
 (cL 53 #[aD y 0,.int .i64 i] w (.tuple #[C,.agg R,.int .i64 E]):Prop):=by
 have HZ:=qj (heap_alloc_new w (.cells Zk.b 115))
 have hx0:=(Ext.refl w).alloc (.cells Zk.b 115)
 have hlt:w.heap.size<(w.alloc (.cells Zk.b 115)).heap.size:=by simp
 have HLT:=qj hlt
 have HX:=qj hx0
 have HHAS:=qj (zfq (h.ext hx0) hs i)
 have H:=qj h
 have HD:=qj hd
 have HCRE:=qj (And.intro hC (And.intro hR hE))
 have HFW:=qj hfew
 have HS:=qj hs
 rw [hlv] at HHAS
 clear hx0 h hd hC hR hE hfew hlt hs
 have hlive:(s:Int)+1≤i∧i≤(s:Int)+24:=of_decide_eq_true hlv
 have hz:E=5∧C=0∧R={}:=by
  obtain ⟨h1,h2,h3⟩:=HCRE.out
  have e:m.lkE s i=5:=by unfold DM.lkE orI zdK upE;rw [if_pos hlive,if_pos rfl,if_neg (by rw [hup];simp)]
  exact ⟨by rw [←h3,e],by rw [←h1];unfold DM.lkC;rw [if_neg (by rw [e];omega)],by rw [←h2];unfold DM.lkR;rw [if_neg (by rw [e];omega)]⟩
 obtain ⟨rfl,rfl,rfl⟩:=hz
 have hdd:m.down=true∨m.down=false∧m.dead=true:=by
  unfold DM.up at hup
  cases h1:m.down <;> cases h2:m.dead <;> simp [h1,h2] at hup ⊢
 clear hlv HCRE hup hlive
 obtain ⟨_,_,_,d4,d5⟩:=zcq (HD.out.ext HX.out)
 obtain ⟨y0,_⟩:=(H.out.ext HX.out).cells
 go_enter Tryz.func53,Tryz.ntmps53
 go_upto_region 1 with (fail)
 generalize (w.alloc (.cells Zk.b 115))=W at *
 generalize hg:w.heap.size=g at *
 have HG:=qj hg
 clear hg
 obtain ⟨z0,z1,z2,z3,z4,z5,z6,z7,z8,z9,z10⟩:=zam HZ.out
 obtain ⟨m0,m1,m2,m3,m4,m5,m6,m7,m8,m9,m10⟩:=zaL HZ.out
 go_wp2_with fail
 refine HHAS.out.mono ?_
 rintro e w1 ⟨rfl,rfl⟩
 rcases hdd with hq | ⟨hq,hq2⟩
 all_goals
  rw [hq] at d4
  try rw [hq2] at d5
  go_wp2_with fail
  have hT:=zdg HZ.out (.int .i64 0) (.int .u8 0) (.int .i64 0) (.int .i64 0) (.int .u8 0) (.int .i64 0) (.int .i64 0) (.int .u8 0) (.string ⟨#[]⟩) (.string ⟨#[]⟩) (.string ⟨#[]⟩)
  have hE:=zdh HX.out (show w.heap.size≤g by have:=HG.out;omega) (.int .i64 0) (.int .u8 0) (.int .i64 0) (.int .i64 0) (.int .u8 0) (.int .i64 0) (.int .i64 0) (.int .u8 0) (.string ⟨#[]⟩) (.string ⟨#[]⟩) (.string ⟨#[]⟩)
  generalize ((SW.mk W g Zk.j:World))=T at *
  exact zgp rfl rfl rfl rfl hT ⟨rfl,hE⟩
theorem znK {w:World} {y d:Nat} {r inc:Int} {s:Nat} {q:Nat→Nat} {m:DM} (h:RLogAt w y d r inc s) (hd:RD w d q m) (hs:s≤1099511627752) (i:Int) (hfew:m.waits.length≤1000000) (C:Nat) (R:Rpt) (E:Int) (hC:m.lkC s r i=C) (hR:m.lkR s r i=R) (hE:m.lkE s i=E) (hlv:decide ((s:Int)+1≤i∧i≤(s:Int)+24)=true) (hup:m.up=true) :
 (cL 53 #[aD y 0,.int .i64 i] w (.tuple #[C,.agg R,.int .i64 E]):Prop):=by
 have HZ:=qj (heap_alloc_new w (.cells Zk.b 115))
 have hx0:=(Ext.refl w).alloc (.cells Zk.b 115)
 have hlt:w.heap.size<(w.alloc (.cells Zk.b 115)).heap.size:=by simp
 have HLT:=qj hlt
 have HX:=qj hx0
 have HHAS:=qj (zfq (h.ext hx0) hs i)
 have H:=qj h
 have HD:=qj hd
 have HCRE:=qj (And.intro hC (And.intro hR hE))
 have HFW:=qj hfew
 have HS:=qj hs
 rw [hlv] at HHAS
 clear hx0 h hd hC hR hE hfew hlt hs
 have hlive:(s:Int)+1≤i∧i≤(s:Int)+24:=of_decide_eq_true hlv
 have hdd:m.down=false∧m.dead=false:=by
  unfold DM.up at hup
  cases h1:m.down <;> cases h2:m.dead <;> simp [h1,h2] at hup ⊢
 have e0:m.lkE s i=0:=zht.2 ⟨hlive,hup⟩
 obtain ⟨hC,hR,hE⟩:=HCRE.out
 obtain rfl:E=0:=by rw [←hE,e0]
 have hC:m.clsW r i=C:=by rw [←hC];unfold DM.lkC;rw [if_pos e0]
 have hR:m.rptW r i=R:=by rw [←hR];unfold DM.lkR;rw [if_pos e0]
 obtain ⟨n,hn⟩:∃n:Nat,zax i=(n:Int):=⟨(zax i).toNat,by unfold zax;omega⟩
 have hn24:n<24:=by unfold zax at hn;omega
 have hrd:=fun V (hx:Ext w V)=>ziW (H.out.ext hx) (HD.out.ext hx) n hn24 i (by omega) (by have:=HS.out;omega) hn HFW.out
 have hwt:=fun V=>zrP (m.recM r (n:Int)) (m.copM r (2 * (n:Int))) (m.copM r (2 * (n:Int)+1)) i V (zgA _ _ _)
 unfold DM.clsW at hC
 unfold DM.rptW at hR
 rw [hn] at hC hR
 have hR2:=hR
 unfold ztF at hR2
 rw [hC,show stateL (m.recM r (n:Int)) (m.copM r (2 * (n:Int))) (m.copM r (2 * (n:Int)+1)) i=R.st by rw [←hR2];rfl,show repX (m.recM r (n:Int)) (m.copM r (2 * (n:Int))) (m.copM r (2 * (n:Int)+1)) i=R.x by rw [←hR2],show repY (m.recM r (n:Int)) (m.copM r (2 * (n:Int))) (m.copM r (2 * (n:Int)+1)) i=R.y by rw [←hR2],show repE (m.recM r (n:Int)) (m.copM r (2 * (n:Int))) (m.copM r (2 * (n:Int)+1)) i=R.e by rw [←hR2]] at hwt
 have HRD:=qj hrd
 have HWT:=qj hwt
 have hix:R.ix=i:=by rw [←hR2]
 have HIX:=qj hix
 clear hlv HCRE hC hR hE e0 hR2 hrd hwt hix
 obtain ⟨_,_,_,d4,d5⟩:=zcq (HD.out.ext HX.out)
 rw [hdd.1] at d4
 rw [hdd.2] at d5
 obtain ⟨y0,_⟩:=(H.out.ext HX.out).cells
 clear hdd hup
 generalize (m.recM r (n:Int))=P at *
 generalize (m.copM r (2 * (n:Int)))=C0 at *
 generalize (m.copM r (2 * (n:Int)+1))=C1 at *
 generalize whereL P C0 C1 i=K at *
 go_enter Tryz.func53,Tryz.ntmps53
 go_upto_region 1 with (fail)
 generalize (w.alloc (.cells Zk.b 115))=W at *
 generalize hg:w.heap.size=g at *
 have HG:=qj hg
 clear hg
 go_wp2_with fail
 refine HHAS.out.mono ?_
 rintro e w1 ⟨rfl,rfl⟩
 go_wp2_with fail
 refine (HRD.out _ HX.out).mono ?_
 rintro e w2 ⟨rfl,hx⟩
 have HX:=qj (HX.out.trans hx)
 have HZ:=qj (zaa hx HZ.out)
 clear hx d4 d5 y0
 obtain ⟨hp1,hp2,hp3⟩:=zbg w2 P C0 C1
 have i4:(Tryz.prog.info? 93).map (·.size)=some 22:=by kernel_rfl
 have HI4:=qj i4
 clear i4
 go_upto_region 6 with (refine zaP rfl 93 _ _ rfl (C0,C1) (w2.heap.size+1) (by simp) rfl rfl rfl HI4.out (by simp [Value.oneCell']) ?_)
 generalize ((w2.alloc (.cells P 90)).alloc (.cells (C0,C1) 93))=W3 at *
 have HX:=qj (HX.out.trans hp3)
 have HZ:=qj (zaa hp3 HZ.out)
 obtain ⟨c0,c1,c2,c3,c4⟩:=hp1.cells
 obtain ⟨N,hN,hsz⟩:=zaz
 have hld:=zar hN hp2
 have HN:=qj hN
 clear hN hp1 hp2 hp3 HI4
 go_wp2_with fail
 refine (HWT.out W3).mono ?_
 rintro e w4 ⟨rfl,hx⟩
 have HX:=qj (HX.out.trans hx)
 have HZ:=qj (zaa hx HZ.out)
 have hx1:=(Ext.refl w4).alloc (.cells #[.int .i64 i,R.st,R.x,R.y,R.e.k,R.e.cl,R.e.sq,R.e.ok,R.e.key,R.e.old,R.e.val] 115)
 have HR9:=qj (heap_alloc_new w4 (.cells #[.int .i64 i,R.st,R.x,R.y,R.e.k,R.e.cl,R.e.sq,R.e.ok,R.e.key,R.e.old,R.e.val] 115))
 have HX:=qj (HX.out.trans hx1)
 have HZ:=qj (zaa hx1 HZ.out)
 clear hx hx1 c0 c1 c2 c3 c4 hsz hld HN
 go_upto_region 7 with (fail)
 generalize (w4.alloc (.cells #[.int .i64 i,R.st,R.x,R.y,R.e.k,R.e.cl,R.e.sq,R.e.ok,R.e.key,R.e.old,R.e.val] 115))=V at *
 generalize w4.heap.size=g9 at *
 obtain ⟨z0,z1,z2,z3,z4,z5,z6,z7,z8,z9,z10⟩:=zam HR9.out
 obtain ⟨n0,n1,n2,n3,n4,n5,n6,n7,n8,n9,n10⟩:=zam HZ.out
 obtain ⟨m0,m1,m2,m3,m4,m5,m6,m7,m8,m9,m10⟩:=zaL HZ.out
 go_wp2_with fail
 go_region
 have hT:=zdg HZ.out (.int .i64 i) R.st R.x R.y R.e.k R.e.cl R.e.sq R.e.ok R.e.key R.e.old R.e.val
 have hE:=zdh HX.out (show w.heap.size≤g by have:=HG.out;omega) (.int .i64 i) R.st R.x R.y R.e.k R.e.cl R.e.sq R.e.ok R.e.key R.e.old R.e.val
 generalize ((SW.mk V g [.int .i64 i,R.st,R.x,R.y,R.e.k,R.e.cl,R.e.sq,R.e.ok,R.e.key,R.e.old,R.e.val]:World))=T at *
 clear z0 z1 z2 z3 z4 z5 z6 z7 z8 z9 z10 n0 n1 n2 n3 n4 n5 n6 n7 n8 n9 n10 m0 m1 m2 m3 m4 m5 m6 m7 m8 m9 m10
 go_wp2_with fail
 exact zgp rfl rfl rfl rfl (zaa (Ext.refl T).drew hT) ⟨by rw [HIX.out],hE.drew⟩
theorem zkQ {w:World} {y d:Nat} {r inc:Int} {s:Nat} {q:Nat→Nat} {m:DM} (h:RLogAt w y d r inc s) (hd:RD w d q m) (hs:s≤1099511627752) (i:Int) (hfew:m.waits.length≤1000000) (C:Nat) (R:Rpt) (E:Int) (hC:m.lkC s r i=C) (hR:m.lkR s r i=R) (hE:m.lkE s i=E) :
 (cL 53 #[aD y 0,.int .i64 i] w (.tuple #[C,.agg R,.int .i64 E]):Prop):=by
 cases hlv:decide ((s:Int)+1≤i∧i≤(s:Int)+24) with
 | false=>exact zpU h hd hs i hfew C R E hC hR hE hlv
 | true =>
  cases hup:m.up with
  | false=>exact zlR h hd hs i hfew C R E hC hR hE hlv hup
  | true=>exact znK h hd hs i hfew C R E hC hR hE hlv hup
end Go.Proofs.YtdbpdhlecgoclaaGreatDoor
