/-
  The contract of the reader's entry: what is read there,valid or not.
-/
import Derived.Test.YtdbpdhlecgoclaaGreatDoorP00
import Derived.Test.YtdbpdhlecgoclaaGreatDoorP02
import Derived.Test.YtdbpdhlecgoclaaGreatDoorP06
import Derived.Test.YtdbpdhlecgoclaaGreatDoorP07
import Derived.Test.YtdbpdhlecgoclaaGreatDoorP08
import Derived.Test.YtdbpdhlecgoclaaGreatDoorP09
import Derived.Test.YtdbpdhlecgoclaaGreatDoorP10
import Derived.Deep.DeepCutAuto
import Derived.LoopN
import Derived.ChangeMaps5
import Derived.Test.YtdbpdhlecgoclaaGreatDoorProg
import Derived.Stop.LaidErr
namespace Go.Proofs.YtdbpdhlecgoclaaGreatDoor
set_option maxRecDepth 100000
set_option maxHeartbeats 6400000
open Go Go.RowKit
theorem zaf {w:World} {g:Nat} {x0 x1 x2 x3 x4 x5 x6:Value} {t:TypeId} (h:w.heap[g]?=some (.cells #[x0,x1,x2,x3,x4,x5,x6] t (0,0))) :
 (CW.mk w g [x0,x1,x2,x3,x4,x5,x6]:Prop) :=
 ⟨cell_of_row w g 0 _ _ _ h,cell_of_row w g 1 _ _ _ h,cell_of_row w g 2 _ _ _ h,cell_of_row w g 3 _ _ _ h,cell_of_row w g 4 _ _ _ h,cell_of_row w g 5 _ _ _ h,cell_of_row w g 6 _ _ _ h⟩
theorem zan {w:World} {g:Nat} {x0 x1 x2 x3 x4 x5 x6:Value} {t:TypeId} (h:w.heap[g]?=some (.cells #[x0,x1,x2,x3,x4,x5,x6] t (0,0))) :
 w.frozen? (aD g 0)=false∧w.frozen? (aD g 1)=false∧w.frozen? (aD g 2)=false∧w.frozen? (aD g 3)=false∧w.frozen? (aD g 4)=false∧w.frozen? (aD g 5)=false∧w.frozen? (aD g 6)=false :=
 ⟨frozen_of_row w g 0 _ _ h,frozen_of_row w g 1 _ _ h,frozen_of_row w g 2 _ _ h,frozen_of_row w g 3 _ _ h,frozen_of_row w g 4 _ _ h,frozen_of_row w g 5 _ _ h,frozen_of_row w g 6 _ _ h⟩
def set7 (w:World) (g:Nat) (x0 x1 x2 x3 x4 x5 x6:Value):World :=
 ((((((w.setCell ⟨g,0,none⟩ x0).setCell ⟨g,1,none⟩ x1).setCell ⟨g,2,none⟩ x2).setCell ⟨g,3,none⟩ x3).setCell ⟨g,4,none⟩ x4).setCell ⟨g,5,none⟩ x5).setCell ⟨g,6,none⟩ x6
theorem zkz {F:Nat→Prop} {a w:World} (h:Mod F a w) {g:Nat} (hg:F g∨a.heap.size≤g) (x0 x1 x2 x3 x4 x5 x6:Value):Mod F a (set7 w g x0 x1 x2 x3 x4 x5 x6) :=
 ((((((h.setCell (p:=⟨g,0,none⟩) hg _).setCell (p:=⟨g,1,none⟩) hg _).setCell (p:=⟨g,2,none⟩) hg _).setCell (p:=⟨g,3,none⟩) hg _).setCell (p:=⟨g,4,none⟩) hg _).setCell (p:=⟨g,5,none⟩) hg _).setCell (p:=⟨g,6,none⟩) hg _
theorem zjL (w:World) (g:Nat) (x0 x1 x2 x3 x4 x5 x6:Value):Mod (fun i=>i=g) w (set7 w g x0 x1 x2 x3 x4 x5 x6):=zkz (F:=fun i=>i=g) (Mod.refl (fun i=>i=g) w) (.inl rfl) _ _ _ _ _ _ _
theorem zaU {a w:World} (h:Ext a w) {g:Nat} (hg:a.heap.size≤g) (x0 x1 x2 x3 x4 x5 x6:Value):Ext a (set7 w g x0 x1 x2 x3 x4 x5 x6) :=
 ((((((h.setCell (p:=⟨g,0,none⟩) hg _).setCell (p:=⟨g,1,none⟩) hg _).setCell (p:=⟨g,2,none⟩) hg _).setCell (p:=⟨g,3,none⟩) hg _).setCell (p:=⟨g,4,none⟩) hg _).setCell (p:=⟨g,5,none⟩) hg _).setCell (p:=⟨g,6,none⟩) hg _
structure EnW (w:World) (g:Nat) (A:Option Addr) (n c:Nat) (l:List Nat) (g2 g3:Nat) (cs:Array Value) (a:Nat) (sh:Bool) (w':World):Prop where
 rd:RdS w' g A n c l a sh
 base:RdB w.heap.size g A n
 res:w'.heap[g2]?=some (.cells #[.int .u8 0,.int .i64 0,.int .i64 0,.int .u8 0,.string ⟨#[]⟩,.string ⟨#[]⟩,.string ⟨#[]⟩] 42 (0,0))
 own:w'.heap[g3]?=some (.cells cs 42 (0,0))
 ge:w.heap.size≤g2∧w.heap.size≤g3∧g2≠g3
 mod:Mod (fun i=>i=g) w w'
section
variable {w w' w2:World} {g n c a g2 g3:Nat} {A:Option Addr} {l:List Nat} {cs:Array Value} {sh:Bool}
theorem EnW.step {a':Nat} {sh':Bool} (h:EnW w g A n c l g2 g3 cs a sh w') (k:Mod (fun i=>i=g) w' w2) (hr:RdS w2 g A n c l a' sh'):EnW w g A n c l g2 g3 cs a' sh' w2 :=
 ⟨hr,h.base,zah h.res k (by have:=h.base.g;have:=h.ge;omega),zah h.own k (by have:=h.base.g;have:=h.ge;omega),h.ge,Mod.trans (F:=fun i=>i=g) h.mod k fun _ hi=>.inl hi⟩
theorem EnW.put (h:EnW w g A n c l g2 g3 cs a sh w') (i:Nat) (v:Value) {ds:Array Value} (hd:ds=cs.setIfInBounds i v):EnW w g A n c l g2 g3 ds a sh (w'.setCell (aD g3 i) v) :=
 ⟨h.rd.other h.base (zaJ g3 i v) fun i hi=>by subst hi;exact h.ge.2.1,h.base,zah h.res (zaJ g3 i v) h.ge.2.2,hd ▸ zch h.own v,h.ge,Mod.setCell (F:=fun i=>i=g) h.mod (.inr h.ge.2.1) v⟩
theorem EnW.fin (h:EnW w g A n c l g2 g3 cs a sh w') (x0 x1 x2 x3 x4 x5 x6:Value):RdS (set7 w' g2 x0 x1 x2 x3 x4 x5 x6) g A n c l a sh∧Mod (fun i=>i=g) w (set7 w' g2 x0 x1 x2 x3 x4 x5 x6) :=
 ⟨h.rd.other (G:=fun i=>i=g2) h.base (zjL _ _ _ _ _ _ _ _ _) (fun i hi=>by subst hi;exact h.ge.1),zkz (F:=fun i=>i=g) h.mod (.inr h.ge.1) _ _ _ _ _ _ _⟩
end
theorem zuh {l:List Nat} {a:Nat} (h:(nmS l a 1).1≠2):enS l a=({ k:=(nmS l a 1).1 },enA l a,(nmS l a 1).2.2):=by unfold enS;rw [if_neg h]
theorem zsq {l:List Nat} {a:Nat} (h:(nmS l a 1).1=2):enS l a=({ k:=2,cl:=((nmS l (enA l a) 1).1:Nat),sq:=((nmS l (enB l a) 6).1:Nat),ok:=(nmS l (enC l a) 1).1,key:=(txS l (opA l (enC l a))).1,old:=(txS l (opB l (enC l a))).1,val:=(txS l (opC l (enC l a))).1 },
 opD l (enC l a),(nmS l a 1).2.2 || (nmS l (enA l a) 1).2.2 || (nmS l (enB l a) 6).2.2 || zeN l (enC l a)):=by unfold enS;rw [if_pos h]
theorem zpX {w:World} {g n c a:Nat} {A:Option Addr} {l:List Nat} {sh:Bool} (h:RdS w g A n c l a sh) :
 Calls Tryz.prog 155 #[aD g 0] w fun e w'=>e=.returned (.agg (enS l a).1)∧RdS w' g A n c l (enS l a).2.1 (sh || (enS l a).2.2)∧Mod (fun i=>i=g) w w':=by
 have HBB:=qj h.base
 have hx:=(Ext.refl w).alloc (.cells Zk.d 42)
 have HR:=qj (h.ext hx)
 have HQ:=qj (heap_alloc_new w (.cells Zk.d 42))
 clear h
 have mk:∀(k:Nat) (w1:World) (a':Nat) (sh':Bool),RdS w1 g A n c l a' sh'→Mod (fun i=>i=g) (w.alloc (.cells Zk.d 42)) w1 →
  EnW w g A n c l w.heap.size w1.heap.size #[k,.int .i64 0,.int .i64 0,.int .u8 0,.string ⟨#[]⟩,.string ⟨#[]⟩,.string ⟨#[]⟩] a' sh' (w1.alloc (.cells #[k,.int .i64 0,.int .i64 0,.int .u8 0,.string ⟨#[]⟩,.string ⟨#[]⟩,.string ⟨#[]⟩] 42)):=by
  intro k w1 a' sh' hr hm
  have hx1:=(Ext.refl w1).alloc (.cells #[k,.int .i64 0,.int .i64 0,.int .u8 0,.string ⟨#[]⟩,.string ⟨#[]⟩,.string ⟨#[]⟩] 42)
  have hgl:=HBB.out.g
  have hs1:=hm.size
  rw [World.size_alloc] at hs1
  refine ⟨hr.ext hx1,HBB.out,zab (zah HQ.out hm (by omega)) hx1,heap_alloc_new w1 _,⟨Nat.le_refl _,by omega,by omega⟩,?_⟩
  exact Mod.ext (F:=fun i=>i=g) (Mod.trans (F:=fun i=>i=g) (Mod.alloc (F:=fun i=>i=g) (Mod.refl (fun i=>i=g) w) _) hm fun _ hi=>.inl hi) hx1
 have MK:=qj mk
 clear mk HQ hx
 have kk:=znt HR.out
 by_cases h2:(nmS l a 1).1=2
 ·have HS2:=qj (zsq h2)
  rw [h2] at kk
  have KK:=qj kk
  clear kk h2
  go_enter Tryz.func155,Tryz.ntmps155
  go_wp2_with fail
  refine KK.out.mono ?_
  rintro e w1 ⟨rfl,hr,hm⟩
  have hs:=MK.out 2 w1 _ _ hr hm
  have hs:EnW _ _ _ _ _ _ _ _ _ (enA l a) _ _:=hs
  clear KK MK HBB HR hr hm
  have HS:=qj hs
  obtain ⟨c0,c1,c2,c3,c4,c5,c6⟩:=zaf hs.own
  obtain ⟨f0,f1,f2,f3,f4,f5,f6⟩:=zan hs.own
  clear hs
  go_wp2_with fail
  generalize w.heap.size=g2 at *
  refine (zdl HS.out.rd 1 rfl).mono ?_
  rintro e w2 ⟨rfl,hr,hm⟩
  have hs:=HS.out.step hm (show RdS _ g A n c l (enB l a) _ from hr)
  generalize w1.heap.size=g3 at *
  clear c0 c1 c2 c3 c4 c5 c6 f0 f1 f2 f3 f4 f5 f6
  obtain ⟨_,c1,_⟩:=zaf hs.own
  obtain ⟨_,f1,_⟩:=zan hs.own
  have HS:=qj (hs.put 1 (.int .i64 ((nmS l (enA l a) 1).1:Int)) (ds:=#[.int .u8 2,.int .i64 ((nmS l (enA l a) 1).1:Int),.int .i64 0,.int .u8 0,.string ⟨#[]⟩,.string ⟨#[]⟩,.string ⟨#[]⟩]) rfl)
  clear hs hr hm
  go_wp2_with fail
  clear c1 f1
  generalize (w2.setCell (aD g3 1) (.int .i64 ((nmS l (enA l a) 1).1:Int)))=w3 at *
  refine (zdl HS.out.rd 6 rfl).mono ?_
  rintro e w4 ⟨rfl,hr,hm⟩
  have hs:=HS.out.step hm (show RdS _ g A n c l (enC l a) _ from hr)
  obtain ⟨_,_,c2,_⟩:=zaf hs.own
  obtain ⟨_,_,f2,_⟩:=zan hs.own
  have HS:=qj (hs.put 2 (.int .i64 ((nmS l (enB l a) 6).1:Int)) (ds:=#[.int .u8 2,.int .i64 ((nmS l (enA l a) 1).1:Int),.int .i64 ((nmS l (enB l a) 6).1:Int),.int .u8 0,.string ⟨#[]⟩,.string ⟨#[]⟩,.string ⟨#[]⟩]) rfl)
  clear hs hr hm
  go_wp2_with fail
  clear c2 f2
  generalize (w4.setCell (aD g3 2) (.int .i64 ((nmS l (enB l a) 6).1:Int)))=w5 at *
  refine (zjx HS.out.rd).mono ?_
  rintro e w6 ⟨rfl,hr,hm⟩
  have hs:=HS.out.step hm hr
  obtain ⟨_,_,_,c3,c4,c5,c6⟩:=zaf hs.own
  obtain ⟨_,_,_,f3,f4,f5,f6⟩:=zan hs.own
  have hs:=((((hs.put 3 (.int .u8 ((nmS l (enC l a) 1).1:Int)) (ds:=#[.int .u8 2,.int .i64 ((nmS l (enA l a) 1).1:Int),.int .i64 ((nmS l (enB l a) 6).1:Int),.int .u8 ((nmS l (enC l a) 1).1:Int),.string ⟨#[]⟩,.string ⟨#[]⟩,.string ⟨#[]⟩]) rfl).put 4 (.string (txS l (opA l (enC l a))).1)
   (ds:=#[.int .u8 2,.int .i64 ((nmS l (enA l a) 1).1:Int),.int .i64 ((nmS l (enB l a) 6).1:Int),.int .u8 ((nmS l (enC l a) 1).1:Int),.string (txS l (opA l (enC l a))).1,.string ⟨#[]⟩,.string ⟨#[]⟩]) rfl).put 5 (.string (txS l (opB l (enC l a))).1)
   (ds:=#[.int .u8 2,.int .i64 ((nmS l (enA l a) 1).1:Int),.int .i64 ((nmS l (enB l a) 6).1:Int),.int .u8 ((nmS l (enC l a) 1).1:Int),.string (txS l (opA l (enC l a))).1,.string (txS l (opB l (enC l a))).1,.string ⟨#[]⟩]) rfl).put 6 (.string (txS l (opC l (enC l a))).1)
   (ds:=#[.int .u8 2,.int .i64 ((nmS l (enA l a) 1).1:Int),.int .i64 ((nmS l (enB l a) 6).1:Int),.int .u8 ((nmS l (enC l a) 1).1:Int),.string (txS l (opA l (enC l a))).1,.string (txS l (opB l (enC l a))).1,.string (txS l (opC l (enC l a))).1]) rfl)
  have HS:=qj hs
  clear hs hr hm
  go_upto_region 6 with (fail)
  clear c3 c4 c5 c6 f3 f4 f5 f6
  generalize ((((w6.setCell (aD g3 3) (.int .u8 ((nmS l (enC l a) 1).1:Int))).setCell (aD g3 4) (.string (txS l (opA l (enC l a))).1)).setCell (aD g3 5) (.string (txS l (opB l (enC l a))).1)).setCell (aD g3 6) (.string (txS l (opC l (enC l a))).1))=W at *
  obtain ⟨c0,c1,c2,c3,c4,c5,c6⟩:=zaf HS.out.own
  obtain ⟨d0,d1,d2,d3,d4,d5,d6⟩:=zaf HS.out.res
  obtain ⟨e0,e1,e2,e3,e4,e5,e6⟩:=zan HS.out.res
  go_wp2_with fail
  obtain ⟨hA,hB⟩:=HS.out.fin (.int .u8 2) (.int .i64 ((nmS l (enA l a) 1).1:Int)) (.int .i64 ((nmS l (enB l a) 6).1:Int)) (.int .u8 ((nmS l (enC l a) 1).1:Int)) (.string (txS l (opA l (enC l a))).1) (.string (txS l (opB l (enC l a))).1) (.string (txS l (opC l (enC l a))).1)
  refine bodyPost_ret (v:=.agg #[.int .u8 2,.int .i64 ((nmS l (enA l a) 1).1:Int),.int .i64 ((nmS l (enB l a) 6).1:Int),.int .u8 ((nmS l (enC l a) 1).1:Int),.string (txS l (opA l (enC l a))).1,.string (txS l (opB l (enC l a))).1,.string (txS l (opC l (enC l a))).1]) ?_ rfl ⟨by rw [HS2.out];rfl,?_,hB⟩
  ·simp [results,Tryz.results155,go_sem,d0,d1,d2,d3,d4,d5,d6]
  ·rw [HS2.out]
   dsimp only
   rw [show (sh || ((nmS l a 1).2.2 || (nmS l (enA l a) 1).2.2 || (nmS l (enB l a) 6).2.2 || zeN l (enC l a)))=(sh || (nmS l a 1).2.2 || (nmS l (enA l a) 1).2.2 || (nmS l (enB l a) 6).2.2 || zeN l (enC l a)) from by simp only [Bool.or_assoc]]
   exact hA
 ·have HS2:=qj (zuh h2)
  have HN:Hid ((((nmS l a 1).1:Int) == 2)=false):=qj (by rw [beq_eq_false_iff_ne];omega)
  clear h2
  generalize hk:(nmS l a 1).1=k at *
  have KK:=qj kk
  have hn:=HN.out
  clear kk
  go_enter Tryz.func155,Tryz.ntmps155
  go_wp2_with fail
  refine KK.out.mono ?_
  rintro e w1 ⟨rfl,hr,hm⟩
  have hs:=MK.out k w1 _ _ hr hm
  have hs:EnW _ _ _ _ _ _ _ _ _ (enA l a) _ _:=hs
  clear KK MK HBB HR hr hm
  have HS:=qj hs
  obtain ⟨d0,d1,d2,d3,d4,d5,d6⟩:=zaf hs.res
  obtain ⟨e0,e1,e2,e3,e4,e5,e6⟩:=zan hs.res
  clear hs
  go_wp2_with fail
  obtain ⟨hA,hB⟩:=HS.out.fin k (.int .i64 0) (.int .i64 0) (.int .u8 0) (.string ⟨#[]⟩) (.string ⟨#[]⟩) (.string ⟨#[]⟩)
  refine bodyPost_ret (v:=.agg #[k,.int .i64 0,.int .i64 0,.int .u8 0,.string ⟨#[]⟩,.string ⟨#[]⟩,.string ⟨#[]⟩]) ?_ rfl ⟨by rw [HS2.out];rfl,?_,hB⟩
  ·simp [results,Tryz.results155,go_sem,d0,d1,d2,d3,d4,d5,d6]
  ·rw [HS2.out]
   exact hA
theorem zbE {w w':World} {p:Addr} {v:Value} (k:Ext w w') (h:w.cell? p=some v):w'.cell? p=some v:=(Below.cell k (World.block_lt_of_cell? w _ h)).trans h
def EBS (W:World) (g:Nat) (cl sq:Int) (ok:Nat) (key old val:ByteArray) (w':World):Prop :=
 w'.cell? ⟨g,1,none⟩=some (.int .i64 cl)∧w'.cell? ⟨g,2,none⟩=some (.int .i64 sq)∧w'.cell? ⟨g,3,none⟩=some (.int .u8 (ok:Int))∧w'.cell? ⟨g,4,none⟩=some (.string key)∧w'.cell? ⟨g,5,none⟩=some (.string old)∧w'.cell? ⟨g,6,none⟩=some (.string val)∧Hid (Ext W w')
theorem EBS.mono {W w w':World} {g ok:Nat} {cl sq:Int} {key old val:ByteArray} (h:EBS W g cl sq ok key old val w) (k:Ext w w'):EBS W g cl sq ok key old val w':=by
 obtain ⟨h0,h1,h2,h3,h4,h5,hE⟩:=h
 exact ⟨zbE k h0,zbE k h1,zbE k h2,zbE k h3,zbE k h4,zbE k h5,qj (hE.out.trans k)⟩
theorem EBS.ext {W w:World} {g ok:Nat} {cl sq:Int} {key old val:ByteArray} (h:EBS W g cl sq ok key old val w):Ext W w:=h.2.2.2.2.2.2.out
theorem zet (A:Option Addr) (c:Nat) {n m:Nat} (h:n=m):Ending.returned (.tuple #[.slice A n c,.int .i64 0])=Ending.returned (.tuple #[.slice A m c,.int .i64 0]):=by rw [h]
theorem zeA {n:Nat} (h:n<256):digs 1 n=[n]:=by simp [digs];omega
theorem ziQ {n:Nat} (h:n<256):fitsB (1:Nat) n=true:=zbs.2 ⟨rfl,by omega,by simpa using h⟩
theorem zdZ {n:Nat} (h:n≤1099511627776):fitsB (6:Nat) n=true:=zbs.2 ⟨rfl,by omega,by simp;omega⟩
theorem ztP (n:Nat) (w:World) (hL:Laid w) (hn:n<256) :
 Calls Tryz.prog 62 #[.int .i64 1,.int .i64 n] w fun e w'=>∃A' c',e=.returned (.slice A' 1 c')∧By w' A' 1 c' [n]∧Ext w w':=by
 have h:=zfv 1 n w hL (ziQ hn)
 rw [zeA hn] at h
 exact h
theorem ztU (n:Nat) (w:World) (hL:Laid w) (hn:n≤1099511627776) :
 Calls Tryz.prog 62 #[.int .i64 6,.int .i64 n] w fun e w'=>∃A' c',e=.returned (.slice A' 6 c')∧By w' A' 6 c' (digs 6 n)∧Ext w w':=zfv 6 n w hL (zdZ hn)
theorem zoB (k:Nat) (cl sq:Int) (ok:Nat) (key old val:ByteArray) (w:World) (hL:Laid w) (hok:ok<256) :
 Calls Tryz.prog 60 #[.agg #[k,cl,sq,ok,key,old,val]] w fun e w'=>∃A' c',e=.returned (.tuple #[.slice A' (eL ⟨k,cl,sq,ok,key,old,val⟩).length c',.int .i64 (eR ⟨k,cl,sq,ok,key,old,val⟩)])∧By w' A' (eL ⟨k,cl,sq,ok,key,old,val⟩).length c' (eL ⟨k,cl,sq,ok,key,old,val⟩)∧Ext w w':=by
 have hx:=(Ext.refl w).alloc (.cells #[k,cl,sq,ok,key,old,val] 42)
 have HT:=qj (heap_alloc_new w (.cells #[k,cl,sq,ok,key,old,val] 42))
 have HE:=qj hx
 have HL:=qj (hL.ext hx)
 clear hx hL
 cases hk:enOk ⟨k,cl,sq,ok,key,old,val⟩ with
 | false =>
  rw [zrm hk,zra hk]
  have HK:=qj hk
  clear hk
  go_enter Tryz.func60,Tryz.ntmps60
  go_wp2_with fail
  refine (zdQ _ _ _ _ _ _ _ _).mono ?_
  rw [HK.out]
  rintro e w1 ⟨rfl,hx⟩
  have HE:=qj (HE.out.trans hx)
  clear hx
  go_wp2_with fail
  go_ret2
  exact ⟨none,0,rfl,By.nil_ _,HE.out⟩
 | true =>
  rw [zjo hk,zjV hk]
  have HK:=qj hk
  rcases znB hk with ⟨h1,hz⟩ | ⟨h2,p1,p2,p3,p4,p5,p6⟩
  ·dsimp only at h1
   subst h1
   have hl:enL ⟨1,cl,sq,ok,key,old,val⟩=[1]:=if_pos rfl
   rw [hl]
   clear hk hl hz
   go_enter Tryz.func60,Tryz.ntmps60
   go_wp2_with fail
   refine (zdQ _ _ _ _ _ _ _ _).mono ?_
   rw [HK.out]
   rintro e w1 ⟨rfl,hx⟩
   obtain ⟨i0,_⟩:=zaf (zab HT.out hx)
   have HT:=qj (zab HT.out hx)
   have HL:=qj (HL.out.ext hx)
   have HE:=qj (HE.out.trans hx)
   clear hx
   go_wp2_with fail
   refine (zfv 1 1 _ HL.out rfl).mono ?_
   rw [zeA (by omega)]
   rintro e w2 ⟨A2,c2,rfl,hb,hx⟩
   have HB:=qj hb
   clear i0
   obtain ⟨i0,_⟩:=zaf (zab HT.out hx)
   have HE:=qj (HE.out.trans hx)
   clear hb hx
   go_wp2_with fail
   go_ret2
   exact ⟨A2,c2,rfl,HB.out,HE.out⟩
  ·dsimp only at h2 p1 p2 p3 p4 p5 p6
   subst h2
   obtain ⟨cn,rfl⟩:=Int.eq_ofNat_of_zero_le p1
   obtain ⟨sn,rfl⟩:=Int.eq_ofNat_of_zero_le (show 0≤sq by omega)
   have HLN:Hid (enL ⟨2,(cn:Int),(sn:Int),ok,key,old,val⟩=[2]++[cn]++digs 6 sn++([ok]++tx key++tx old++tx val)):=qj (by
    unfold enL
    rw [if_neg (by simp)]
    dsimp only
    rw [Int.toNat_natCast,Int.toNat_natCast]
    simp)
   have HN:Hid ((enL ⟨2,(cn:Int),(sn:Int),ok,key,old,val⟩).length=1+1+6+(1+(key.size+1)+(old.size+1)+(val.size+1))):=qj (by
    rw [HLN.out]
    simp only [List.length_append,List.length_cons,List.length_nil,zaB,zgi]
    omega)
   have HF1:Hid (cn<256):=qj (by omega)
   have HF6:Hid (sn≤1099511627776):=qj (by omega)
   have HS:Hid (key.size≤255∧old.size≤255∧val.size≤255∧ok<256):=qj ⟨by omega,by omega,by omega,hok⟩
   clear hk p1 p2 p3 p4 p5 p6 hok
   go_enter Tryz.func60,Tryz.ntmps60
   go_wp2_with fail
   refine (zdQ _ _ _ _ _ _ _ _).mono ?_
   rw [HK.out]
   rintro e w1 ⟨rfl,hx⟩
   obtain ⟨i0,_⟩:=zaf (zab HT.out hx)
   have HT:=qj (zab HT.out hx)
   have HL:=qj (HL.out.ext hx)
   have HE:=qj (HE.out.trans hx)
   clear hx
   go_wp2_with fail
   refine (zfv 1 2 _ HL.out rfl).mono ?_
   rw [zeA (by omega)]
   rintro e w2 ⟨A2,c2,rfl,hb,hx⟩
   have HB:=qj hb
   have HL:=qj (HL.out.ext hx)
   have HE:=qj (HE.out.trans hx)
   clear i0
   obtain ⟨i0,i1,i2,i3,i4,i5,i6⟩:=zaf (zab HT.out hx)
   clear hb hx
   go_wp2_with fail
   clear i0
   generalize w.heap.size=g at *
   have hS:EBS w2 g cn sn ok key old val w2:=⟨i1,i2,i3,i4,i5,i6,qj (Ext.refl _)⟩
   have hS:=hS.mono ((Ext.refl w2).drew)
   clear i1 i2 i3 i4 i5 i6
   go_region_held3 (fun w'=>w'.cell? (aD g 1)=some (.int .i64 (cn:Int))∧w'.cell? (aD g 2)=some (.int .i64 (sn:Int))∧w'.cell? (aD g 3)=some (.int .u8 (ok:Int))∧w'.cell? (aD g 4)=some (.string key)∧w'.cell? (aD g 5)=some (.string old)∧w'.cell? (aD g 6)=some (.string val)∧Hid (Ext w2 w'))
    (first | assumption | exact hS | exact EBS.mono (by assumption) hx | exact EBS.mono (by assumption) ((Ext.refl _).alloc _))
    (first
     | (go_at_call 62;((with_reducible refine (ztP cn _ ?_ HF1.out).mono ?_);(exact HL.out.ext (EBS.ext (g:=g) (cl:=cn) (sq:=sn) (ok:=ok) (key:=key) (old:=old) (val:=val) (by assumption)));rintro r w3 ⟨A3,c3,rfl,hb,hx⟩;have HB3:=qj hb;have HX3:=qj hx;clear hb))
     | (go_at_call 62;((with_reducible refine (ztU sn _ ?_ HF6.out).mono ?_);(exact HL.out.ext (EBS.ext (g:=g) (cl:=cn) (sq:=sn) (ok:=ok) (key:=key) (old:=old) (val:=val) (by assumption)));rintro r w4 ⟨A4,c4,rfl,hb,hx⟩;have HB4:=qj hb;have HX4:=qj hx;clear hb))
     | (go_at_call 118;((with_reducible refine (zpG ok key old val _ ?_ HS.out.2.2.2 HS.out.1 HS.out.2.1 HS.out.2.2.1).mono ?_);(exact HL.out.ext (EBS.ext (g:=g) (cl:=cn) (sq:=sn) (ok:=ok) (key:=key) (old:=old) (val:=val) (by assumption)));rintro r w5 ⟨A5,c5,rfl,hb,hx⟩;have HB5:=qj hb;have HX5:=qj hx;have hS5:=EBS.mono (W:=w2) (g:=g) (cl:=cn) (sq:=sn) (ok:=ok) (key:=key) (old:=old) (val:=val) (by assumption) hx;clear hb))
     | (go_at_call 61;(refine (zuO w5 (HB.out.ext (((Ext.refl w2).drew.trans HX3.out).trans (HX4.out.trans HX5.out))) (HB3.out.ext (HX4.out.trans HX5.out)) (HB4.out.ext HX5.out) HB5.out (by have:=HS.out;omega)).mono ?_);rintro r w6 ⟨A6,c6,rfl,hb,hx⟩;have HB6:=qj hb;have HX6:=qj hx;have hS6:=hS5.mono hx;clear hb hx))
   have HF:=qj (HE.out.trans hS6.ext)
   have HB6:Hid (By w6 A6 (1+1+6+(1+(key.size+1)+(old.size+1)+(val.size+1))) c6 _):=HB6
   clear hS5 hS6 hS
   go_wp2_with fail
   go_ret2
   refine ⟨A6,c6,?_,?_,HF.out⟩
   ·exact zet _ _ (by rw [HN.out])
   ·rw [HN.out,HLN.out]
    exact HB6.out
def EPS (W:World) (g:Nat) (x y:Int) (w':World):Prop :=
 w'.cell? ⟨g,0,none⟩=some (.int .i64 x)∧w'.cell? ⟨g,1,none⟩=some (.int .i64 y)∧Hid (Ext W w')
theorem EPS.mono {W w w':World} {g:Nat} {x y:Int} (h:EPS W g x y w) (k:Ext w w'):EPS W g x y w':=by
 obtain ⟨h0,h1,hE⟩:=h
 exact ⟨zbE k h0,zbE k h1,qj (hE.out.trans k)⟩
theorem EPS.ext {W w:World} {g:Nat} {x y:Int} (h:EPS W g x y w):Ext W w:=h.2.2.out
theorem zfa {w:World} {g:Nat} {x0 x1:Value} {t:TypeId} (h:w.heap[g]?=some (.cells #[x0,x1] t (0,0))) :
 w.cell? (aD g 0)=some x0∧w.cell? (aD g 1)=some x1:=⟨cell_of_row w g 0 _ _ _ h,cell_of_row w g 1 _ _ _ h⟩
theorem zeW (x y:Int) (k:Nat) (cl sq:Int) (ok:Nat) (key old val:ByteArray) (w:World) (hL:Laid w) (hok:ok<256) :
 Calls Tryz.prog 27 #[.agg #[x,y],.agg #[k,cl,sq,ok,key,old,val]] w fun e w'=>∃A' c',e=.returned (.tuple #[.slice A' (pL x y ⟨k,cl,sq,ok,key,old,val⟩).length c',.int .i64 (pR x y ⟨k,cl,sq,ok,key,old,val⟩)])∧By w' A' (pL x y ⟨k,cl,sq,ok,key,old,val⟩).length c' (pL x y ⟨k,cl,sq,ok,key,old,val⟩)∧Ext w w':=by
 have hx1:=(Ext.refl w).alloc (.cells #[x,y] 38)
 have hx2:=(Ext.refl (w.alloc (.cells #[x,y] 38))).alloc (.cells #[k,cl,sq,ok,key,old,val] 42)
 have HTB:=qj (zab (heap_alloc_new w (.cells #[x,y] 38)) hx2)
 have HT:=qj (heap_alloc2_new w (.cells #[x,y] 38) (.cells #[k,cl,sq,ok,key,old,val] 42))
 have HE:=qj (hx1.trans hx2)
 have HL:=qj (hL.ext (hx1.trans hx2))
 clear hx1 hx2 hL
 cases hb:balE x y with
 | false =>
  rw [zqL hb,zrG hb]
  have HB:=qj hb
  clear hb
  go_enter Tryz.func27,Tryz.ntmps27
  go_wp2_with fail
  refine (zbc _ _ _).mono ?_
  rw [HB.out]
  rintro e w1 ⟨rfl,hx⟩
  have HE:=qj (HE.out.trans hx)
  clear hx
  go_wp2_with fail
  go_ret2
  exact ⟨none,0,rfl,By.nil_ _,HE.out⟩
 | true =>
  have HBB:=qj hb
  have HC:=qj (fun V hV=>zoB k cl sq ok key old val V hV hok)
  cases hk:enOk ⟨k,cl,sq,ok,key,old,val⟩ with
  | false =>
   rw [ztI hk,ztY hk]
   rw [zrm hk,zra hk] at HC
   clear hb hk
   go_enter Tryz.func27,Tryz.ntmps27
   go_wp2_with fail
   refine (zbc _ _ _).mono ?_
   rw [HBB.out]
   rintro e w1 ⟨rfl,hx⟩
   obtain ⟨i0,i1,i2,i3,i4,i5,i6⟩:=zaf (zab HT.out hx)
   have HE:=qj (HE.out.trans hx)
   have HL:=qj (HL.out.ext hx)
   clear hx
   go_wp2_with fail
   refine (HC.out _ HL.out).mono ?_
   rintro e w2 ⟨A2,c2,rfl,_,hx⟩
   have HE:=qj (HE.out.trans hx)
   clear hx i0 i1 i2 i3 i4 i5 i6
   go_wp2_with fail
   go_ret2
   exact ⟨none,0,rfl,By.nil_ _,HE.out⟩
  | true =>
   rw [zjN hb hk,zif hb hk]
   rw [zjo hk,zjV hk] at HC
   obtain ⟨p1,p2,p3,p4⟩:=zbr.1 hb
   obtain ⟨xn,rfl⟩:=Int.eq_ofNat_of_zero_le (show 0≤x by omega)
   obtain ⟨yn,rfl⟩:=Int.eq_ofNat_of_zero_le p3
   have hlen:=zjA hk
   have HLN:Hid (zbb (xn:Int) (yn:Int) ⟨k,cl,sq,ok,key,old,val⟩=digs 6 xn++[yn]++enL ⟨k,cl,sq,ok,key,old,val⟩):=qj rfl
   generalize hE:enL ⟨k,cl,sq,ok,key,old,val⟩=E at *
   have HN:Hid ((zbb (xn:Int) (yn:Int) ⟨k,cl,sq,ok,key,old,val⟩).length=6+1+E.length):=qj (by
    rw [HLN.out]
    simp only [List.length_append,List.length_cons,List.length_nil,zaB])
   have HF1:Hid (yn<256):=qj (by omega)
   have HF6:Hid (xn≤1099511627776):=qj (by omega)
   have HEL:=qj hlen
   clear hb hk p1 p2 p3 p4 hlen hE
   go_enter Tryz.func27,Tryz.ntmps27
   go_wp2_with fail
   refine (zbc _ _ _).mono ?_
   rw [HBB.out]
   rintro e w1 ⟨rfl,hx⟩
   obtain ⟨i0,i1,i2,i3,i4,i5,i6⟩:=zaf (zab HT.out hx)
   have HTB:=qj (zab HTB.out hx)
   have HE:=qj (HE.out.trans hx)
   have HL:=qj (HL.out.ext hx)
   clear hx
   go_wp2_with fail
   refine (HC.out _ HL.out).mono ?_
   rintro e w2 ⟨A2,c2,rfl,hb,hx⟩
   have HB:=qj hb
   have HE:=qj (HE.out.trans hx)
   have HL:=qj (HL.out.ext hx)
   clear i0 i1 i2 i3 i4 i5 i6
   obtain ⟨i0,i1⟩:=zfa (zab HTB.out hx)
   clear hx hb
   go_wp2_with fail
   generalize w.heap.size=g at *
   have hS:EPS w2 g xn yn w2:=⟨i0,i1,qj (Ext.refl _)⟩
   have hS:=hS.mono ((Ext.refl w2).drew)
   clear i0 i1
   go_region_held3 (fun w'=>w'.cell? (aD g 0)=some (.int .i64 (xn:Int))∧w'.cell? (aD g 1)=some (.int .i64 (yn:Int))∧Hid (Ext w2 w'))
    (first | assumption | exact hS | exact EPS.mono (by assumption) hx | exact EPS.mono (by assumption) ((Ext.refl _).alloc _))
    (first
     | (go_at_call 62;((with_reducible refine (ztU xn _ ?_ HF6.out).mono ?_);(exact HL.out.ext (EPS.ext (g:=g) (x:=xn) (y:=yn) (by assumption)));rintro r w3 ⟨A3,c3,rfl,hb,hx⟩;have HB3:=qj hb;have HX3:=qj hx;clear hb))
     | (go_at_call 62;((with_reducible refine (ztP yn _ ?_ HF1.out).mono ?_);(exact HL.out.ext (EPS.ext (g:=g) (x:=xn) (y:=yn) (by assumption)));rintro r w4 ⟨A4,c4,rfl,hb,hx⟩;have HB4:=qj hb;have HX4:=qj hx;have hS4:=EPS.mono (W:=w2) (g:=g) (x:=xn) (y:=yn) (by assumption) hx;clear hb))
     | (go_at_call 61;(refine (zrU w4 (HB3.out.ext HX4.out) HB4.out (HB.out.ext (((Ext.refl w2).drew.trans HX3.out).trans HX4.out)) (by have:=HEL.out;omega)).mono ?_);rintro r w6 ⟨A6,c6,rfl,hb,hx⟩;have HB6:=qj hb;have HX6:=qj hx;have hS6:=hS4.mono hx;clear hb hx))
   have HF:=qj (HE.out.trans hS6.ext)
   clear hS4 hS6 hS
   go_wp2_with fail
   go_ret2
   refine ⟨A6,c6,?_,?_,HF.out⟩
   ·exact zet _ _ (by rw [HN.out])
   ·rw [HN.out,HLN.out]
    exact HB6.out
def zjO (w:World):Prop:=w.cell? ⟨0,0,none⟩=some (.int .i64 6)∧w.cell? ⟨0,1,none⟩=some (.int .i64 1)∧w.cell? ⟨0,2,none⟩=some (.int .i64 1)
structure LaidS (w:World):Prop where
 o:Laid w
 t:zjO w
theorem zjO.ext {a b:World} (h:zjO a) (k:Ext a b):zjO b:=by
 have hlt:0<a.heap.size:=World.block_lt_of_cell? a _ h.1
 obtain ⟨h0,h1,h2⟩:=h
 exact ⟨(Below.cell k (p:=⟨0,0,none⟩) hlt).trans h0,(Below.cell k (p:=⟨0,1,none⟩) hlt).trans h1,(Below.cell k (p:=⟨0,2,none⟩) hlt).trans h2⟩
theorem LaidS.ext {a b:World} (h:LaidS a) (k:Ext a b):LaidS b:=⟨h.o.ext k,h.t.ext k⟩
theorem zku (h:Int) (w:World):Calls Tryz.prog 125 #[.int .i64 h] w fun e w'=>e=.returned (.bool (h == 0 || h == 1))∧w'=w:=by
 obtain ⟨b,hb⟩:∃b,(h == 0)=b:=⟨_,rfl⟩
 obtain ⟨c,hc⟩:∃c,(h == 1)=c:=⟨_,rfl⟩
 rw [hb,hc]
 cases b <;>
 ·go_enter Tryz.func125,Tryz.ntmps125
  go_wp2
  go_ret
  exact ⟨rfl,rfl⟩
theorem zlX (x y:Int) (w:World) (hL:Laid w) :
 Calls Tryz.prog 27 #[.agg #[x,y],.agg Zk.k] w fun e w'=>∃A' n c',e=.returned (.tuple #[.slice A' n c',.int .i64 (if balE x y=true then 0 else 2)])∧Ext w w':=by
 have hn:enOk ⟨1,0,0,0,⟨#[]⟩,⟨#[]⟩,⟨#[]⟩⟩=true:=zcS.2 (.inl ⟨rfl,rfl,rfl,rfl,rfl,rfl,rfl⟩)
 have hr:pR x y ⟨1,0,0,0,⟨#[]⟩,⟨#[]⟩,⟨#[]⟩⟩=(if balE x y=true then 0 else 2):=by unfold pR;simp [hn]
 refine (zeW x y 1 0 0 0 ⟨#[]⟩ ⟨#[]⟩ ⟨#[]⟩ w hL (by omega)).mono ?_
 rintro e w' ⟨A',c',he,_,hx⟩
 exact ⟨A',_,c',by rw [he,hr],hx⟩
theorem zmm (x y h:Int) (w:World) (hL:Laid w):(cL 68 #[.agg #[x,y],h] w (.bool (recB x y h)):Prop):=by
 have hE:=(Ext.refl w).alloc (.cells #[x,y] 38)
 have HP:=qj (zlX x y _ (hL.ext hE))
 have HE:=qj hE
 have HF:=qj (zku h)
 have hr:recB x y h=(balE x y && (h == 0 || h == 1)):=by
  unfold recB
  congr 1
  rw [Bool.eq_iff_iff,decide_eq_true_iff,Bool.or_eq_true,beq_iff_eq,beq_iff_eq]
 rw [hr]
 clear hE hL hr
 cases hb:balE x y with
 | true =>
  rw [hb] at HP
  simp only [if_true] at HP
  clear hb
  go_enter Tryz.func68,Tryz.ntmps68
  go_wp2_with fail
  refine HP.out.mono ?_
  rintro e w1 ⟨A',n,c',rfl,hx⟩
  have HX:=qj (HE.out.trans hx)
  clear hx
  go_wp2_with fail
  refine (HF.out _).mono ?_
  rintro e w2 ⟨rfl,rfl⟩
  go_wp2_with fail
  go_ret
  exact ⟨rfl,HX.out⟩
 | false =>
  rw [hb] at HP
  simp only [if_false,Bool.false_eq_true] at HP
  clear hb
  go_enter Tryz.func68,Tryz.ntmps68
  go_wp2_with fail
  refine HP.out.mono ?_
  rintro e w1 ⟨A',n,c',rfl,hx⟩
  have HX:=qj (HE.out.trans hx)
  clear hx
  go_wp2_with fail
  go_ret
  exact ⟨rfl,HX.out⟩
section
open Go Go.RowKit Go.ChangeShapes Go.WideShapes Go.Deep
structure Ls {α:Type} (cells:α→List Value) (N:Nat) (w:World) (B:Nat) (A:Option Addr) (n c:Nat) (l:List α):Prop where
 len:l.length=n
 cap:n≤c
 most:c≤9223372036854775807
 rd:0<n→∃g o,A=some ⟨g,o,none⟩∧g<B∧∀j a,l[j]?=some a→∀k v,(cells a)[k]?=some v→w.cell? ⟨g,o+(j * N+k),none⟩=some v
 nil_:A=none→c=0
theorem Ls.at_ {α:Type} {cells:α→List Value} {N:Nat} {w:World} {B:Nat} {A:Option Addr} {n c:Nat} {l:List α} (h:Ls cells N w B A n c l) {j:Nat} (hj:j<n) :
 ∃g o a,A=some ⟨g,o,none⟩∧g<B∧l[j]?=some a∧∀k v,(cells a)[k]?=some v→w.cell? (aD g (o+(j * N+k)))=some v:=by
 obtain ⟨g,o,e,hg,hc⟩:=h.rd (by omega)
 have hj':j<l.length:=by rw [h.len];exact hj
 have ha:l[j]?=some l[j]:=List.getElem?_eq_getElem hj'
 exact ⟨g,o,l[j],e,hg,ha,fun k v hv=>hc j _ ha k v hv⟩
section
variable {H:Type} {enc:TypeId × Value→H} {P:Program} {w:World} {base:Nat} {spare:Nat→Bool} {held:Bool}
theorem zph {α:Type} [Inhabited α] {cells:α→List Value} {N:Nat} {Ok:α→Prop} (hN:∀a,(cells a).length=N) (h0:0<N) {t e:TypeId} (ht:P.underlying t=some (.slice e)) (hce:P.cellsOf e=N)
 (one:∀{fuel:Nat} {cs:List Value} {x:DataW H × List MemPlace},DataW.trod enc P w base spare held fuel e cs=some x→∃a,cs=cells a∧Ok a) {fuel:Nat} {cs:List Value} {x:DataW H × List MemPlace} (h:DataW.trod enc P w base spare held fuel t cs=some x) :
 ∃(A:Option Addr) (n c:Nat) (l:List α),cs=[.slice A n c]∧Ls cells N w w.heap.size A n c l∧∀a∈l,Ok a:=by
 rcases open_slice ht h with ⟨rfl,_⟩ | ⟨a,len,cap,m,n,D,Pl,rfl,_,hl,hm,hmm,_,hi⟩
 ·exact ⟨none,0,0,[],rfl,⟨rfl,Nat.le_refl _,by omega,fun h=>absurd h (by omega),fun _=>rfl⟩,fun a ha=>(by cases ha)⟩
 ·have hle:len≤m:=by rw [hmm];split <;> omega
  have each:∀i,i<len→∃b:α,(∀k v,(cells b)[k]?=some v→w.cell? ((a.add (i * N)).add k)=some v)∧Ok b:=fun i hil=>by
   obtain ⟨cs',h1,h2⟩:=hi i (by omega)
   rw [hce] at h1
   obtain ⟨_,_,hcell⟩:=World.cells?_some h1
   obtain ⟨b,rfl,hb⟩:=one h2
   refine ⟨b,fun k v hv=>?_,hb⟩
   have hk5:k<N:=by rw [←hN b];exact (List.getElem?_eq_some_iff.1 hv).1
   rw [hcell k hk5,hv]
  obtain ⟨f,hf⟩:=choose_lt each
  refine ⟨some a,len,cap,(List.range len).map f,rfl,⟨by simp,hl,by unfold maxLen at hm;exact hm,fun hn=>?_,fun h=>by cases h⟩,fun b hb=>?_⟩
  ·obtain ⟨g,o,spot⟩:=a
   have hc:=(hf 0 hn).1 0 _ (List.getElem?_eq_getElem (by rw [hN];exact h0))
   have hspot:spot=none:=by simpa [Addr.add] using World.cell?_spot hc
   subst hspot
   refine ⟨g,o,rfl,?_,fun j b hb k v hv=>?_⟩
   ·have:=World.block_lt_of_cell? w _ hc
    simpa [Addr.add] using this
   ·rw [List.getElem?_map] at hb
    obtain ⟨i,hi2,rfl⟩:=Option.map_eq_some_iff.1 hb
    obtain ⟨hjl,hji⟩:=List.getElem?_eq_some_iff.1 hi2
    simp at hjl hji
    subst hji
    have:=(hf j hjl).1 k v hv
    rw [Addr.add_lit,Addr.add_lit,Nat.add_assoc] at this
    exact this
  ·obtain ⟨i,hil,rfl⟩:=List.mem_map.1 hb
   exact (hf i (List.mem_range.1 hil)).2
theorem zoL {α:Type} [Inhabited α] {cells:α→List Value} {N:Nat} {Ok:α→Prop} (hN:∀a,(cells a).length=N) (h0:0<N) {t e:TypeId} (ht:P.underlying t=some (.slice e)) (hce:P.cellsOf e=N)
 (one:∀{fuel:Nat} {cs:List Value} {x:DataW H × List MemPlace},DataW.trod enc P w base spare held fuel e cs=some x→∃a,cs=cells a∧Ok a) {r:Reach} {b0:Nat} {v:Value} {d:DataW H} {p:List MemPlace}
 (hv:Value.okWide P w r b0 t v) (h:DataW.Trod enc P w base spare held t v d p):∃(A:Option Addr) (n c:Nat) (l:List α),v=.slice A n c∧Ls cells N w w.heap.size A n c l∧∀a∈l,Ok a:=by
 obtain ⟨A,n,c,rfl⟩:=okWide_slice ht hv
 obtain ⟨fuel,hf⟩:=h
 obtain ⟨A',n',c',l,hcs,hl⟩:=zph hN h0 ht hce one hf
 simp [Value.cells] at hcs
 obtain ⟨rfl,rfl,rfl⟩:=hcs
 exact ⟨_,_,_,l,rfl,hl⟩
structure BalTy (P:Program) (e ti:TypeId):Prop where
 fs:∃f0 f1:Field,P.underlying e=some (.struct #[f0,f1])∧(f0.type=ti∧f0.offset=0)∧(f1.type=ti∧f1.offset=1)
 cells:P.cellsOf e=2
 one:P.cellsOf ti=1
 i64:P.underlying ti=some (.int .i64)
theorem zrn {e ti:TypeId} (T:BalTy P e ti) {fuel:Nat} {cs:List Value} {x:DataW H × List MemPlace} (h:DataW.trod enc P w base spare held fuel e cs=some x):∃a b:Int,cs=[.int .i64 a,.int .i64 b]∧(Lit.int .i64 a).wf=true∧(Lit.int .i64 b).wf=true:=by
 obtain ⟨f0,f1,hs,⟨y0,o0⟩,y1,o1⟩:=T.fs
 obtain ⟨xs,n,_,_,hcl,hxl,hg⟩:=DataW.trod_struct hs h
 rw [T.cells] at hcl
 match cs,hcl,xs,hxl with
 | [c0,c1],_,[x0,x1],_ =>
  have g0:=hg 0 f0 rfl
  have g1:=hg 1 f1 rfl
  rw [y0,o0,T.one] at g0
  rw [y1,o1,T.one] at g1
  obtain ⟨a,e0,_,w0⟩:=DataW.trod_int T.i64 (show DataW.trod enc P w base spare held n ti [c0]=some x0 from g0)
  obtain ⟨b,e1,_,w1⟩:=DataW.trod_int T.i64 (show DataW.trod enc P w base spare held n ti [c1]=some x1 from g1)
  injection e0 with e0 _
  injection e1 with e1 _
  exact ⟨a,b,by rw [e0,e1],w0,w1⟩
structure Bal where
 x:Int:=0
 y:Int:=0
instance:Inhabited Bal:=⟨{}⟩
structure StepU where
 p:Bool:=false
 x:Int:=0
 y:Int:=0
 w:Int:=0
 kA:Option Addr:=none
 kn:Nat:=0
 kc:Nat:=0
 kl:List Bool:=[]
instance:Inhabited StepU:=⟨{}⟩
end
end
section
open Go Go.RowKit Go.ChangeShapes Go.WideShapes Go.Deep
def Ent.cells (e:Ent):List Value:=[.int .u8 (e.k:Nat),.int .i64 e.cl,.int .i64 e.sq,.int .u8 (e.ok:Nat),.string e.key,.string e.old,.string e.val]
structure Ent.Wf (e:Ent):Prop where
 k:e.k<256
 ok:e.ok<256
 cl:(Lit.int .i64 e.cl).wf=true
 sq:(Lit.int .i64 e.sq).wf=true
 key:e.key.size≤maxLen
 old:e.old.size≤maxLen
 val:e.val.size≤maxLen
section
variable {H:Type} {enc:TypeId × Value→H} {P:Program} {w:World} {base:Nat} {spare:Nat→Bool} {held:Bool}
structure OpTy (P:Program) (e t8 ts:TypeId):Prop where
 fs:∃f0 f1 f2 f3:Field,P.underlying e=some (.struct #[f0,f1,f2,f3])∧(f0.type=t8∧f0.offset=0)∧(f1.type=ts∧f1.offset=1)∧(f2.type=ts∧f2.offset=2)∧(f3.type=ts∧f3.offset=3)
 cells:P.cellsOf e=4
 u8:P.underlying t8=some (.int .u8)
 str:P.underlying ts=some .string
 one:P.cellsOf t8=1∧P.cellsOf ts=1
theorem zrD {e t8 ts:TypeId} (T:OpTy P e t8 ts) {fuel:Nat} {cs:List Value} {x:DataW H × List MemPlace} (h:DataW.trod enc P w base spare held fuel e cs=some x) :
 ∃(k:Nat) (a b c:ByteArray),cs=[.int .u8 (k:Nat),.string a,.string b,.string c]∧k<256∧a.size≤maxLen∧b.size≤maxLen∧c.size≤maxLen:=by
 obtain ⟨f0,f1,f2,f3,hs,⟨y0,o0⟩,⟨y1,o1⟩,⟨y2,o2⟩,y3,o3⟩:=T.fs
 obtain ⟨xs,n,_,_,hcl,hxl,hg⟩:=DataW.trod_struct hs h
 rw [T.cells] at hcl
 match cs,hcl,xs,hxl with
 | [c0,c1,c2,c3],_,[x0,x1,x2,x3],_ =>
  have g0:=hg 0 f0 rfl
  have g1:=hg 1 f1 rfl
  have g2:=hg 2 f2 rfl
  have g3:=hg 3 f3 rfl
  rw [y0,o0,T.one.1] at g0
  rw [y1,o1,T.one.2] at g1
  rw [y2,o2,T.one.2] at g2
  rw [y3,o3,T.one.2] at g3
  obtain ⟨z,e0,_,w0⟩:=DataW.trod_int T.u8 (show DataW.trod enc P w base spare held n t8 [c0]=some x0 from g0)
  obtain ⟨a,e1,_,w1⟩:=DataW.trod_string T.str (show DataW.trod enc P w base spare held n ts [c1]=some x1 from g1)
  obtain ⟨b,e2,_,w2⟩:=DataW.trod_string T.str (show DataW.trod enc P w base spare held n ts [c2]=some x2 from g2)
  obtain ⟨c,e3,_,w3⟩:=DataW.trod_string T.str (show DataW.trod enc P w base spare held n ts [c3]=some x3 from g3)
  have hz:=bounds_u8 w0
  obtain ⟨k,rfl⟩:=Int.eq_ofNat_of_zero_le (show 0≤z by omega)
  injection e0 with e0 _
  injection e1 with e1 _
  injection e2 with e2 _
  injection e3 with e3 _
  exact ⟨k,a,b,c,by rw [e0,e1,e2,e3],by omega,w1,w2,w3⟩
structure EntTy (P:Program) (e t8 ti tO ts:TypeId):Prop where
 fs:∃f0 f1 f2 f3:Field,P.underlying e=some (.struct #[f0,f1,f2,f3])∧(f0.type=t8∧f0.offset=0)∧(f1.type=ti∧f1.offset=1)∧(f2.type=ti∧f2.offset=2)∧(f3.type=tO∧f3.offset=3)
 cells:P.cellsOf e=7
 op:OpTy P tO t8 ts
 i64:P.underlying ti=some (.int .i64)
 one:P.cellsOf ti=1
theorem zru {e t8 ti tO ts:TypeId} (T:EntTy P e t8 ti tO ts) {fuel:Nat} {cs:List Value} {x:DataW H × List MemPlace} (h:DataW.trod enc P w base spare held fuel e cs=some x) :
 ∃e:Ent,cs=e.cells∧e.Wf:=by
 obtain ⟨f0,f1,f2,f3,hs,⟨y0,o0⟩,⟨y1,o1⟩,⟨y2,o2⟩,y3,o3⟩:=T.fs
 obtain ⟨xs,n,_,_,hcl,hxl,hg⟩:=DataW.trod_struct hs h
 rw [T.cells] at hcl
 match cs,hcl,xs,hxl with
 | [c0,c1,c2,c3,c4,c5,c6],_,[x0,x1,x2,x3],_ =>
  have g0:=hg 0 f0 rfl
  have g1:=hg 1 f1 rfl
  have g2:=hg 2 f2 rfl
  have g3:=hg 3 f3 rfl
  rw [y0,o0,T.op.one.1] at g0
  rw [y1,o1,T.one] at g1
  rw [y2,o2,T.one] at g2
  rw [y3,o3,T.op.cells] at g3
  obtain ⟨z,e0,_,w0⟩:=DataW.trod_int T.op.u8 (show DataW.trod enc P w base spare held n t8 [c0]=some x0 from g0)
  obtain ⟨cl,e1,_,w1⟩:=DataW.trod_int T.i64 (show DataW.trod enc P w base spare held n ti [c1]=some x1 from g1)
  obtain ⟨sq,e2,_,w2⟩:=DataW.trod_int T.i64 (show DataW.trod enc P w base spare held n ti [c2]=some x2 from g2)
  obtain ⟨ok,a,b,c,e3,k3,ka,kb,kc⟩:=zrD T.op (show DataW.trod enc P w base spare held n tO [c3,c4,c5,c6]=some x3 from g3)
  have hz:=bounds_u8 w0
  obtain ⟨k,rfl⟩:=Int.eq_ofNat_of_zero_le (show 0≤z by omega)
  injection e0 with e0 _
  injection e1 with e1 _
  injection e2 with e2 _
  refine ⟨⟨k,cl,sq,ok,a,b,c⟩,?_,⟨by dsimp only;omega,k3,w1,w2,ka,kb,kc⟩⟩
  rw [e0,e1,e2,e3]
  rfl
end
end
section
open Go Go.RowKit Go.ChangeShapes Go.WideShapes Go.Deep
theorem zuY:OpTy Tryz.prog 40 5 9:=⟨⟨_,_,_,_,Tryz.underlying40,⟨rfl,rfl⟩,⟨rfl,rfl⟩,⟨rfl,rfl⟩,rfl,rfl⟩,by kernel_rfl,Tryz.underlying5,Tryz.underlying9,by kernel_rfl,by kernel_rfl⟩
theorem zuv:EntTy Tryz.prog 42 5 3 40 9:=⟨⟨_,_,_,_,Tryz.underlying42,⟨rfl,rfl⟩,⟨rfl,rfl⟩,⟨rfl,rfl⟩,rfl,rfl⟩,by kernel_rfl,zuY,Tryz.underlying3,by kernel_rfl⟩
end
section
open Go Go.ChangeShapes Go.WideShapes Go.ChangeAt Go.WideMaps Go.WideElems Go.RowKit Go.Deep
def laidList:List (String × DataW Unit):=[("sexton/crc.halves",Rows.laid_sexton_crc_halves),("sexton/octet.bounds",Rows.laid_sexton_octet_bounds),("sexton/tag.regions",Rows.laid_sexton_tag_regions),("sexton/tag.widths",Rows.laid_sexton_tag_widths),("sexton/slot.widths",Rows.laid_sexton_slot_widths)]
theorem door_met (os:Os) (args:Array Value):laidMetH Tryz.prog laidList ((World.doorLaid Tryz.prog 400 os).forCall (fun _ _=>0) ⟨#[],args,[]⟩).memory :=
 laidMetH_of_parts3 (fuel:=8) (laidMet_of_run' 8 (by kernel_rfl) (by kernel_rfl)) (by kernel_rfl) (by kernel_rfl)
theorem laid_of {W:World} (h:laidMetH Tryz.prog laidList W):LaidF W∧LaidS W:=by
 rw [MakeChecks.laidMetH_plain _ _ _ (by kernel_rfl)] at h
 have hF:LaidF W:=⟨⟨laid_o h.tail,laid_t h.tail.tail,laid_w h.tail.tail.tail⟩,laid_h h⟩
 have hg:Tryz.prog.globalNamed "sexton/slot.widths"=some 0:=by kernel_rfl
 have ht:(Tryz.prog.globals[0]?).map (·.type)=some 135:=by kernel_rfl
 have hv:W.var? Tryz.prog "sexton/slot.widths"=some (([6,1,1]:List Int).map fun z=>Value.int .i64 z).toArray :=
  Lib.tabIs_of_head hg ht Tryz.underlying135 Tryz.underlying3 (by kernel_rfl) (by kernel_rfl) h.tail.tail.tail.tail
 have hc:=fun i=>World.var?_cell hg hv i
 exact ⟨hF,⟨hF.a.o,⟨hc 0,hc 1,hc 2⟩⟩⟩
end
end Go.Proofs.YtdbpdhlecgoclaaGreatDoor
