/-
  The contracts of slot's named and isCovered.
-/
import Derived.Test.YtdbpdhlecgoclaaGreatDoorP00
import Derived.Test.YtdbpdhlecgoclaaGreatDoorP19
import Derived.Deep.DeepCutAuto
import Derived.Laws.EntriesVeiled
import Derived.Deep.MidRow
namespace Go.Proofs.YtdbpdhlecgoclaaGreatDoor
set_option maxRecDepth 100000
set_option maxHeartbeats 6400000
open Go Go.RowKit
def zbj (w:World) (g:Nat) (p:Rec):Prop:=w.heap[g]?=some (.cells #[.int .u8 (p.st:Int),.int .i64 p.ix,.int .i64 p.bx,.int .i64 p.yb,.int .i64 p.wh] 90 (0,0))
theorem zbj.ext {w w':World} {g:Nat} {p:Rec} (h:zbj w g p) (k:Ext w w'):zbj w' g p:=zaa k h
theorem zbj.cells {w:World} {g:Nat} {p:Rec} (h:zbj w g p):(CW.mk w g p:Prop):=⟨cell_of_row w g 0 _ _ _ h,cell_of_row w g 1 _ _ _ h,cell_of_row w g 2 _ _ _ h,cell_of_row w g 3 _ _ _ h,cell_of_row w g 4 _ _ _ h⟩
theorem zbj.new (w:World) (p:Rec):zbj (w.alloc (.cells p 90)) w.heap.size p:=heap_alloc_new w _
theorem zhg (n:Nat):((n:Int) == 1)=decide (n=1):=by
 rw [Bool.eq_iff_iff]
 simp
 omega
def namedL (p:Rec):Int:=if p.st=1 then p.wh else -1
theorem zdw (p:Rec) (hw:p.wh=0∨p.wh=1) (w:World):(cL 66 #[.agg p] w (.int .i64 (namedL p)):Prop):=by
 have HE:=qj ((Ext.refl w).alloc (.cells p 90))
 have HF:=qj zme
 have HW:=qj hw
 clear hw
 by_cases h1:p.st=1
 ·have hb:((p.st:Int) != 1)=false:=by simp [h1]
  rw [show namedL p=p.wh from if_pos h1]
  clear h1
  go_enter Tryz.func66,Tryz.ntmps66
  go_wp2_with fail
  refine (HF.out _ HW.out _).mono ?_
  rintro e w1 ⟨rfl,rfl⟩
  go_wp2_with fail
  go_ret
  exact ⟨rfl,HE.out⟩
 ·have hb:((p.st:Int) != 1)=true:=by simp;omega
  rw [show namedL p=-1 from if_neg h1]
  clear h1
  go_enter Tryz.func66,Tryz.ntmps66
  go_wp2_with fail
  go_ret
  exact ⟨rfl,HE.out⟩
def zdA (c:CopL) (i:Int):Bool:=(c.st:Int) == 1 && decide (i<c.ix)
def covB (p:Rec) (f0 f1:CopL) (i:Int):Bool:=((p.st:Int) == 1 && decide (i<p.ix)) || (zdA f0 i || zdA f1 i)
theorem zdM {p:Rec} {f0 f1:CopL} {i:Int}:covB p f0 f1 i=true↔beyL p f0 f1 i:=by
 unfold covB zdA beyL
 simp only [zhg,Bool.or_eq_true,Bool.and_eq_true,decide_eq_true_iff]
theorem zqr:Enters Tryz.prog 186:=enters_of Tryz.func186 (by kernel_rfl) rfl
theorem zbn (p:Rec) (f0 f1:CopL) (i:Int) (w:World):(cL 164 #[.agg p,.agg (f0,f1),.int .i64 i] w (.bool (covB p f0 f1 i)):Prop):=by
 have hmf:∀(fn:Fn) (first cap:Array Value) (w:World),(Instr.makeFunc fn first cap).run Tryz.prog w=.ok (.func fn first cap) w:=fun _ _ _ _=>rfl
 have hE:=(((Ext.refl w).alloc (.cells p 90)).alloc (.cells (f0,f1) 93)).alloc (.cells #[.int .i64 i] 3)
 have hT:=(TwoL.new (w.alloc (.cells p 90)) f0 f1).ext ((Ext.refl _).alloc (.cells #[.int .i64 i] 3))
 have hI:(((w.alloc (.cells p 90)).alloc (.cells (f0,f1) 93)).alloc (.cells #[.int .i64 i] 3)).cell? (aD (w.heap.size+1+1) 0)=some (.int .i64 i):=zea (by simp) rfl
 rw [World.size_alloc] at hT
 have hA:=fun c:CopL=>(fun W hx=>zlF c (w.heap.size+1+1) i W (zaq hx hI):Asks (((w.alloc (.cells p 90)).alloc (.cells (f0,f1) 93)).alloc (.cells #[.int .i64 i] 3)) 186 #[aD (w.heap.size+1+1) 0] c (zdA c i))
 have HC:=qj (zbf 186 #[aD (w.heap.size+1+1) 0] f0 f1 (zdA f0 i) (zdA f1 i) (w.heap.size+1) 2 _ zqr hT (hA f0) (hA f1))
 have HE:=qj hE
 unfold covB
 generalize (zdA f0 i || zdA f1 i)=r at HC ⊢
 obtain ⟨b,hb⟩:∃b,((p.st:Int) == 1)=b:=⟨_,rfl⟩
 obtain ⟨d,hd⟩:∃d,decide (i<p.ix)=d:=⟨_,rfl⟩
 rw [hb,hd]
 clear hA hT hI hE
 cases b with
 | true =>
  cases d with
  | true =>
   go_enter Tryz.func164,Tryz.ntmps164
   go_wp2_with fail
   go_ret
   exact ⟨rfl,HE.out⟩
  | false =>
   simp only [Bool.and_false,Bool.false_or]
   go_enter Tryz.func164,Tryz.ntmps164
   go_wp2_with fail
   refine HC.out.mono ?_
   rintro e w1 ⟨rfl,hx⟩
   have HX:=qj (HE.out.trans hx)
   clear hx
   go_wp2_with fail
   go_ret
   exact ⟨rfl,HX.out⟩
 | false =>
  simp only [Bool.false_and,Bool.false_or]
  go_enter Tryz.func164,Tryz.ntmps164
  go_wp2_with fail
  refine HC.out.mono ?_
  rintro e w1 ⟨rfl,hx⟩
  have HX:=qj (HE.out.trans hx)
  clear hx
  go_wp2_with fail
  go_ret
  exact ⟨rfl,HX.out⟩
def setL (w:World) (g:Nat):Nat→List Value→World
 | _,[]=>w
 | o,x :: xs=>setL (w.setCell ⟨g,o,none⟩ x) g (o+1) xs
def setA (cs:Array Value):Nat→List Value→Array Value
 | _,[]=>cs
 | o,x :: xs=>setA (cs.setIfInBounds o x) (o+1) xs
theorem zbG {w:World} {g i:Nat} {cs:Array Value} {t:TypeId} (h:w.heap[g]?=some (.cells cs t (0,0))) (v:Value):(w.setCell (aD g i) v).heap[g]?=some (.cells (cs.setIfInBounds i v) t (0,0)):=by
 rw [setCell_eq_setRow w g i _ _ _ v h]
 exact setRow_heap w g _ (cs.setIfInBounds i v) _ _ h
theorem zdL {g:Nat} {t:TypeId}:∀(xs:List Value) (w:World) (o:Nat) (cs:Array Value),w.heap[g]?=some (.cells cs t (0,0))→(setL w g o xs).heap[g]?=some (.cells (setA cs o xs) t (0,0))
 | [],_,_,_,h=>h
 | x :: xs,_,o,_,h=>zdL xs _ (o+1) _ (zbG h x)
theorem zbt {g:Nat}:∀(xs:List Value) (w:World) (o:Nat),Mod (fun k=>k=g) w (setL w g o xs)
 | [],w,_=>Mod.refl (fun k=>k=g) w
 | x :: xs,w,o=>Mod.trans (F:=fun k=>k=g) (Mod.setCell (F:=fun k=>k=g) (Mod.refl (fun k=>k=g) w) (p:=⟨g,o,none⟩) (.inl rfl) x) (zbt xs _ (o+1)) fun _ hi=>.inl hi
theorem zaK {a w:World} (h:Ext a w) {g:Nat} (hg:a.heap.size≤g) (xs:List Value) (o:Nat):Ext a (setL w g o xs) :=
 Mod.to_ext (Mod.trans (F:=fun k=>k=g) (Mod.of_ext (F:=fun k=>k=g) h) (zbt xs w o) fun _ hi=>.inl hi) fun i hi=>by subst hi;exact hg
theorem zbH {w:World} {g k:Nat} {ob:Obj} (h:w.heap[k]?=some ob) (hk:k≠g) (xs:List Value) (o:Nat):(setL w g o xs).heap[k]?=some ob :=
 ((zbt (g:=g) xs w o).block k (Array.getElem?_eq_some_iff.1 h).1 hk).trans h
theorem zrX (w:World) (g:Nat) (x0 x1 x2 x3 x4:Value):((SW.mk w g [x0,x1,x2,x3,x4]:World))=setL w g 0 [x0,x1,x2,x3,x4]:=by
 simp only [setL,Nat.zero_add,Nat.reduceAdd]
theorem arr5 (x0 x1 x2 x3 x4 z0 z1 z2 z3 z4:Value):setA #[z0,z1,z2,z3,z4] 0 [x0,x1,x2,x3,x4]=#[x0,x1,x2,x3,x4]:=by
 simp only [setA,List.setIfInBounds_toArray,List.set_cons_zero,List.set_cons_succ,Nat.zero_add,Nat.reduceAdd]
theorem row5 {w:World} {g:Nat} {t:TypeId} {z0 z1 z2 z3 z4:Value} (h:w.heap[g]?=some (.cells #[z0,z1,z2,z3,z4] t (0,0))) (x0 x1 x2 x3 x4:Value) :
 (((SW.mk w g [x0,x1,x2,x3,x4]:World))).heap[g]?=some (.cells #[x0,x1,x2,x3,x4] t (0,0)):=by
 rw [zrX]
 have h2:=zdL [x0,x1,x2,x3,x4] w 0 _ h
 rw [arr5] at h2
 exact h2
theorem ext5 {a w:World} (h:Ext a w) {g:Nat} (hg:a.heap.size≤g) (x0 x1 x2 x3 x4:Value):Ext a (((SW.mk w g [x0,x1,x2,x3,x4]:World))):=by
 rw [zrX]
 exact zaK h hg _ _
theorem zjX (w:World) (g:Nat) (x0 x1 x2 x3 x4 x5 x6 x7 x8 x9 x10:Value):((SW.mk w g [x0,x1,x2,x3,x4,x5,x6,x7,x8,x9,x10]:World))=setL w g 0 [x0,x1,x2,x3,x4,x5,x6,x7,x8,x9,x10]:=by
 simp only [setL,Nat.zero_add,Nat.reduceAdd]
theorem ztR (x0 x1 x2 x3 x4 x5 x6 x7 x8 x9 x10 z0 z1 z2 z3 z4 z5 z6 z7 z8 z9 z10:Value):setA #[z0,z1,z2,z3,z4,z5,z6,z7,z8,z9,z10] 0 [x0,x1,x2,x3,x4,x5,x6,x7,x8,x9,x10]=#[x0,x1,x2,x3,x4,x5,x6,x7,x8,x9,x10]:=by
 simp only [setA,List.setIfInBounds_toArray,List.set_cons_zero,List.set_cons_succ,Nat.zero_add,Nat.reduceAdd]
theorem zfe {w:World} {g:Nat} {t:TypeId} {z0 z1 z2 z3 z4 z5 z6 z7 z8 z9 z10:Value} (h:w.heap[g]?=some (.cells #[z0,z1,z2,z3,z4,z5,z6,z7,z8,z9,z10] t (0,0))) (x0 x1 x2 x3 x4 x5 x6 x7 x8 x9 x10:Value) :
 (((SW.mk w g [x0,x1,x2,x3,x4,x5,x6,x7,x8,x9,x10]:World))).heap[g]?=some (.cells #[x0,x1,x2,x3,x4,x5,x6,x7,x8,x9,x10] t (0,0)):=by
 rw [zjX]
 have h2:=zdL [x0,x1,x2,x3,x4,x5,x6,x7,x8,x9,x10] w 0 _ h
 rw [ztR] at h2
 exact h2
theorem zkE {w:World} {g k:Nat} {ob:Obj} (h:w.heap[k]?=some ob) (hk:k≠g) (x0 x1 x2 x3 x4 x5 x6 x7 x8 x9 x10:Value):(((SW.mk w g [x0,x1,x2,x3,x4,x5,x6,x7,x8,x9,x10]:World))).heap[k]?=some ob:=by
 rw [zjX]
 exact zbH h hk _ _
theorem zfA {a w:World} (h:Ext a w) {g:Nat} (hg:a.heap.size≤g) (x0 x1 x2 x3 x4 x5 x6 x7 x8 x9 x10:Value):Ext a (((SW.mk w g [x0,x1,x2,x3,x4,x5,x6,x7,x8,x9,x10]:World))):=by
 rw [zjX]
 exact zaK h hg _ _
theorem zjn (w:World) (g:Nat) (x0 x1 x2 x3 x4 x5 x6 x7 x8 x9 x10 x11 x12 x13:Value):((SW.mk w g [x0,x1,x2,x3,x4,x5,x6,x7,x8,x9,x10,x11,x12,x13]:World))=setL w g 0 [x0,x1,x2,x3,x4,x5,x6,x7,x8,x9,x10,x11,x12,x13]:=by
 simp only [setL,Nat.zero_add,Nat.reduceAdd]
theorem zuW (x0 x1 x2 x3 x4 x5 x6 x7 x8 x9 x10 x11 x12 x13 z0 z1 z2 z3 z4 z5 z6 z7 z8 z9 z10 z11 z12 z13:Value):setA #[z0,z1,z2,z3,z4,z5,z6,z7,z8,z9,z10,z11,z12,z13] 0 [x0,x1,x2,x3,x4,x5,x6,x7,x8,x9,x10,x11,x12,x13]=#[x0,x1,x2,x3,x4,x5,x6,x7,x8,x9,x10,x11,x12,x13]:=by
 simp only [setA,List.setIfInBounds_toArray,List.set_cons_zero,List.set_cons_succ,Nat.zero_add,Nat.reduceAdd]
theorem zjd {w:World} {g:Nat} {t:TypeId} {z0 z1 z2 z3 z4 z5 z6 z7 z8 z9 z10 z11 z12 z13:Value} (h:w.heap[g]?=some (.cells #[z0,z1,z2,z3,z4,z5,z6,z7,z8,z9,z10,z11,z12,z13] t (0,0))) (x0 x1 x2 x3 x4 x5 x6 x7 x8 x9 x10 x11 x12 x13:Value) :
 (((SW.mk w g [x0,x1,x2,x3,x4,x5,x6,x7,x8,x9,x10,x11,x12,x13]:World))).heap[g]?=some (.cells #[x0,x1,x2,x3,x4,x5,x6,x7,x8,x9,x10,x11,x12,x13] t (0,0)):=by
 rw [zjn]
 have h2:=zdL [x0,x1,x2,x3,x4,x5,x6,x7,x8,x9,x10,x11,x12,x13] w 0 _ h
 rw [zuW] at h2
 exact h2
theorem zbU {w:World} {g k:Nat} {ob:Obj} (h:w.heap[k]?=some ob) (hk:k≠g) (x0 x1 x2 x3 x4 x5 x6 x7 x8 x9 x10 x11 x12 x13:Value):(((SW.mk w g [x0,x1,x2,x3,x4,x5,x6,x7,x8,x9,x10,x11,x12,x13]:World))).heap[k]?=some ob:=by
 rw [zjn]
 exact zbH h hk _ _
theorem ziA {a w:World} (h:Ext a w) {g:Nat} (hg:a.heap.size≤g) (x0 x1 x2 x3 x4 x5 x6 x7 x8 x9 x10 x11 x12 x13:Value):Ext a (((SW.mk w g [x0,x1,x2,x3,x4,x5,x6,x7,x8,x9,x10,x11,x12,x13]:World))):=by
 rw [zjn]
 exact zaK h hg _ _
theorem ztL (x0 x1 x2 x3 x4 x5 x6 x7 x8 x9 x10 x11 x12 x13 x14 x15 x16 x17 x18 x19 x20 x21 z0 z1 z2 z3 z4 z5 z6 z7 z8 z9 z10 z11 z12 z13 z14 z15 z16 z17 z18 z19 z20 z21:Value):setA #[z0,z1,z2,z3,z4,z5,z6,z7,z8,z9,z10,z11,z12,z13,z14,z15,z16,z17,z18,z19,z20,z21] 0 [x0,x1,x2,x3,x4,x5,x6,x7,x8,x9,x10,x11,x12,x13,x14,x15,x16,x17,x18,x19,x20,x21]=#[x0,x1,x2,x3,x4,x5,x6,x7,x8,x9,x10,x11,x12,x13,x14,x15,x16,x17,x18,x19,x20,x21]:=by
 simp only [setA,List.setIfInBounds_toArray,List.set_cons_zero,List.set_cons_succ,Nat.zero_add,Nat.reduceAdd]
theorem zrp (w:World) (g:Nat) (x0 x1 x2 x3 x4 x5 x6 x7 x8 x9 x10:Value):((SW.mk w g [x0,x1,x2,x3,x4,x5,x6,x7,x8,x9,x10]:World))=setL w g 0 [x0,x1,x2,x3,x4,x5,x6,x7,x8,x9,x10]:=by
 simp only [setL,Nat.zero_add,Nat.reduceAdd]
theorem zud (x0 x1 x2 x3 x4 x5 x6 x7 x8 x9 x10 z0 z1 z2 z3 z4 z5 z6 z7 z8 z9 z10 z11 z12 z13 z14 z15 z16 z17 z18 z19 z20 z21:Value):setA #[z0,z1,z2,z3,z4,z5,z6,z7,z8,z9,z10,z11,z12,z13,z14,z15,z16,z17,z18,z19,z20,z21] 0 [x0,x1,x2,x3,x4,x5,x6,x7,x8,x9,x10]=#[x0,x1,x2,x3,x4,x5,x6,x7,x8,x9,x10,z11,z12,z13,z14,z15,z16,z17,z18,z19,z20,z21]:=by
 simp only [setA,List.setIfInBounds_toArray,List.set_cons_zero,List.set_cons_succ,Nat.zero_add,Nat.reduceAdd]
theorem zpH (w:World) (g:Nat) (x0 x1 x2 x3 x4 x5 x6 x7 x8 x9 x10:Value):((SV.mk w g [x0,x1,x2,x3,x4,x5,x6,x7,x8,x9,x10]:World))=setL w g 11 [x0,x1,x2,x3,x4,x5,x6,x7,x8,x9,x10]:=by
 simp only [setL,Nat.reduceAdd]
theorem zuJ (x0 x1 x2 x3 x4 x5 x6 x7 x8 x9 x10 z0 z1 z2 z3 z4 z5 z6 z7 z8 z9 z10 z11 z12 z13 z14 z15 z16 z17 z18 z19 z20 z21:Value):setA #[z0,z1,z2,z3,z4,z5,z6,z7,z8,z9,z10,z11,z12,z13,z14,z15,z16,z17,z18,z19,z20,z21] 11 [x0,x1,x2,x3,x4,x5,x6,x7,x8,x9,x10]=#[z0,z1,z2,z3,z4,z5,z6,z7,z8,z9,z10,x0,x1,x2,x3,x4,x5,x6,x7,x8,x9,x10]:=by
 simp only [setA,List.setIfInBounds_toArray,List.set_cons_zero,List.set_cons_succ,Nat.reduceAdd]
def isB (c:CopL) (i:Int):Bool:=(c.st:Int) == 1 && c.ix == i
theorem zen {c:CopL} {i:Int}:isB c i=true↔c.of i:=by
 unfold isB CopL.of
 rw [zhg,Bool.and_eq_true,decide_eq_true_iff,beq_iff_eq]
def isR (p:Rec) (i:Int):Bool:=(p.st:Int) == 1 && p.ix == i
theorem zgI {p:Rec} {i:Int}:isR p i=true↔p.of i:=by
 unfold isR Rec.of
 rw [zhg,Bool.and_eq_true,decide_eq_true_iff,beq_iff_eq]
def badB (n:Nat):Bool:=(n:Int) != 0 && (n:Int) != 1
theorem zfn {n:Nat} (h:n≤2):badB n=true↔n=2:=by
 unfold badB
 rw [Bool.and_eq_true,bne_iff_ne,bne_iff_ne]
 omega
def hasB (f0 f1:CopL):Bool:=badB f0.st || badB f1.st
theorem zkY {f0 f1:CopL} (h0:f0.st≤2) (h1:f1.st≤2):hasB f0 f1=true↔badL f0 f1:=by
 unfold hasB badL
 rw [Bool.or_eq_true,zfn h0,zfn h1]
def zgH (p:Rec) (i:Int) (c:CopL):Bool:=isB c i && decide (0≤balI c.bx c.yb p.bx p.yb)
theorem zcU {p:Rec} {i:Int} {c:CopL}:zgH p i c=true↔zct p c i:=by
 unfold zgH zct
 rw [Bool.and_eq_true,zen,decide_eq_true_iff,zsr]
theorem zgq:Enters Tryz.prog 160:=enters_of Tryz.func160 (by kernel_rfl) rfl
theorem zhr:Enters Tryz.prog 157:=enters_of Tryz.func157 (by kernel_rfl) rfl
theorem zoq:Enters Tryz.prog 162:=enters_of Tryz.func162 (by kernel_rfl) rfl
theorem znn:Enters Tryz.prog 165:=enters_of Tryz.func165 (by kernel_rfl) rfl
theorem zuC:(Tryz.prog.info? 93).map (·.size)=some 22:=by kernel_rfl
theorem zaz:∃N,N=22∧∀w,(sizeOf 93).run Tryz.prog w=.ok N w:=⟨22,rfl,fun w=>by
 have h:=zuC
 cases hq:Tryz.prog.info? 93 with
 | none=>simp [hq] at h
 | some i=>simp [hq] at h;simp [sizeOf,typeInfo,hq,h]⟩
theorem zar {w:World} {g N:Nat} {f0 f1:CopL} (hN:N=22) (h:TwoL w g f0 f1):(loadCellsFrom ⟨g,0,none⟩ 0 N #[]).run Tryz.prog w=.ok (f0,f1) w:=by
 subst hN
 exact run_loadCells_list (P:=Tryz.prog) w ⟨g,0,none⟩ (f0,f1) (fun j v hv=>by rw [Addr.add_mid,Nat.zero_add,cell_of_row w g j _ _ _ h,List.getElem?_toArray];exact hv)
structure ApS (w W:World) (p:Rec) (f0 f1:CopL) (i:Int) (g g1 g2 g3 g4:Nat):Prop where
 rec_:zbj W g p
 two:TwoL W g1 f0 f1
 ix:W.heap[g2]?=some (.cells #[.int .i64 i] 3 (0,0))
 rule:W.heap[g3]?=some (.cells #[.nilFunc,.int .i64 0,.int .u8 0,.int .i64 0,.int .u8 0,.int .i64 0,.int .i64 0,.int .u8 0,.int .i64 0,.int .i64 0,.int .u8 0,.string ⟨#[]⟩,.string ⟨#[]⟩,.string ⟨#[]⟩] 179 (0,0))
 fn:W.heap[g4]?=some (.cells #[.func (.func 157) #[] #[.pointer (some ⟨g2,0,none⟩)]] 177 (0,0))
 ext:Ext w W
 ne:g≠g3∧g2≠g3∧g4≠g3∧w.heap.size≤g3
theorem ApS.make (w:World) (p:Rec) (f0 f1:CopL) (i:Int):ApS w (((((w.alloc (.cells p 90)).alloc (.cells (f0,f1) 93)).alloc (.cells #[.int .i64 i] 3)).alloc (.cells Zk.g 179)).alloc (.cells #[.func (.func 157) #[] #[aD (w.heap.size+1+1) 0]] 177)) p f0 f1 i w.heap.size (w.heap.size+1) (w.heap.size+1+1) (w.heap.size+1+1+1) (w.heap.size+1+1+1+1):=by
 have row:∀(V:World) (cs:Array Value) (t:TypeId) (k:Nat),k=V.heap.size→(V.alloc (.cells cs t)).heap[k]?=some (.cells cs t (0,0)):=fun V cs t k hk=>by subst hk;exact heap_alloc_new V _
 have past:∀(V:World) (o ob:Obj) (k:Nat),V.heap[k]?=some ob→(V.alloc o).heap[k]?=some ob:=fun V o ob k h=>zaa ((Ext.refl V).alloc o) h
 refine ⟨?_,?_,?_,?_,?_,?_,?_⟩
 ·exact past _ _ _ _ (past _ _ _ _ (past _ _ _ _ (past _ _ _ _ (row _ _ _ _ rfl))))
 ·exact past _ _ _ _ (past _ _ _ _ (past _ _ _ _ (row _ _ _ _ (by simp))))
 ·exact past _ _ _ _ (past _ _ _ _ (row _ _ _ _ (by simp)))
 ·exact past _ _ _ _ (row _ _ _ _ (by simp))
 ·exact row _ _ _ _ (by simp)
 ·exact ((((((Ext.refl w).alloc _).alloc _).alloc _).alloc _).alloc _)
 ·omega
theorem ApS.mono {w W W':World} {p:Rec} {f0 f1:CopL} {i:Int} {g g1 g2 g3 g4:Nat} (h:ApS w W p f0 f1 i g g1 g2 g3 g4) (k:Ext W W'):ApS w W' p f0 f1 i g g1 g2 g3 g4 :=
 ⟨h.rec_.ext k,h.two.ext k,zaa k h.ix,zaa k h.rule,zaa k h.fn,h.ext.trans k,h.ne⟩
theorem zbw {W w':World} {g g2 F:Nat} {caps:Array Value} {fi:Int} {x2 x3 x4 x5 x6 x7 x8 x9 x10 x11 x12 x13:Value} {f0 f1:CopL} (h:W.heap[g]?=some (.cells #[.func (.func F) #[] caps,.int .i64 fi,x2,x3,x4,x5,x6,x7,x8,x9,x10,x11,x12,x13] 179 (0,0))) (hT:TwoL W g2 f0 f1) (k:Ext W w') :
 w'.cell? (aD g 0)=some (.func (.func F) #[] caps)∧w'.cell? (aD g 1)=some (.int .i64 fi)∧(CW.mk w' g2 (f0,f1):Prop) :=
 ⟨cell_of_row w' g 0 _ _ _ (zaa k h),cell_of_row w' g 1 _ _ _ (zaa k h),cell_of_row w' g2 0 _ _ _ (zaa k hT),cell_of_row w' g2 1 _ _ _ (zaa k hT),cell_of_row w' g2 2 _ _ _ (zaa k hT),cell_of_row w' g2 3 _ _ _ (zaa k hT),cell_of_row w' g2 4 _ _ _ (zaa k hT),cell_of_row w' g2 5 _ _ _ (zaa k hT),cell_of_row w' g2 6 _ _ _ (zaa k hT),cell_of_row w' g2 7 _ _ _ (zaa k hT),cell_of_row w' g2 8 _ _ _ (zaa k hT),cell_of_row w' g2 9 _ _ _ (zaa k hT),cell_of_row w' g2 10 _ _ _ (zaa k hT),cell_of_row w' g2 11 _ _ _ (zaa k hT),cell_of_row w' g2 12 _ _ _ (zaa k hT),cell_of_row w' g2 13 _ _ _ (zaa k hT),cell_of_row w' g2 14 _ _ _ (zaa k hT),cell_of_row w' g2 15 _ _ _ (zaa k hT),cell_of_row w' g2 16 _ _ _ (zaa k hT),cell_of_row w' g2 17 _ _ _ (zaa k hT),cell_of_row w' g2 18 _ _ _ (zaa k hT),cell_of_row w' g2 19 _ _ _ (zaa k hT),cell_of_row w' g2 20 _ _ _ (zaa k hT),cell_of_row w' g2 21 _ _ _ (zaa k hT)⟩
def useL (fi:Int) (b0 b1:Bool) (f0 f1:CopL):Int:=if fi=1 then zco (b0=true) (b1=true) (¬gtL f0.bx f0.yb f1.bx f1.yb) else zco (b0=true) (b1=true) (gtL f1.bx f1.yb f0.bx f0.yb)
theorem zgy (a b:Int) (w:World):(Instr.index 226 (.agg #[a,b]) (.int .i64 0)).run Tryz.prog w=.ok a w∧(Instr.index 226 (.agg #[a,b]) (.int .i64 1)).run Tryz.prog w=.ok b w:=by
 constructor <;> kernel_rfl
theorem uk {P:Program} {md:Region.Mode} {ops:Array Oper} {Q:Exit→Act→World→Prop} {S:World→Prop} {i:Nat} {oi:Oper} {v:Value} {fuel:Nat} {listed:Array Bool} {a:Act} {w:World} (h0:ops[i]?=some oi)
 (h:wpAnyH P md ops Q S fuel (listed.setIfInBounds i true) (a.put oi.dst v) w)
 (h1:(Region.noSelect ops && Region.free md ops listed i && (Region.ready md ops listed).contains i)=true:=by kernel_rfl)
 (hy:YieldsIf P ops S oi v a:=by first | exact Or.inl ⟨by rfl,by (intro w9 hSw;(try dsimp only at hSw);go_simp;(try with_reducible rfl))⟩ | exact Or.inr ⟨by rfl,rfl⟩)
 (hS:S w:=by assumption) (hQ:∀c a w,Q (.panic c) (a.put oi.dst v) w→Q (.panic c) a w:=by exact fun _ _ _ h=>h):wpAnyH P md ops Q S (fuel+1) listed a w:=by
 rw [Bool.and_eq_true,Bool.and_eq_true] at h1
 exact wpAnyH_take h0 h1.1.1 h1.1.2 h1.2 hQ hy hS h
abbrev SCU (g g2 F:Nat) (caps:Array Value) (fi:Int) (f0 f1:CopL) (w':World):Prop:=w'.cell? ⟨g,0,none⟩=some (.func (.func F) #[] caps)∧w'.cell? ⟨g,1,none⟩=some (.int .i64 fi)∧w'.cell? ⟨g2,0,none⟩=some (.int .u8 (f0.st:Int))∧w'.cell? ⟨g2,1,none⟩=some (.int .i64 f0.ix)∧w'.cell? ⟨g2,2,none⟩=some (.int .i64 f0.bx)∧w'.cell? ⟨g2,3,none⟩=some (.int .i64 f0.yb)∧w'.cell? ⟨g2,4,none⟩=some (.int .u8 (f0.e.k:Int))∧w'.cell? ⟨g2,5,none⟩=some (.int .i64 f0.e.cl)∧w'.cell? ⟨g2,6,none⟩=some (.int .i64 f0.e.sq)∧w'.cell? ⟨g2,7,none⟩=some (.int .u8 (f0.e.ok:Int))∧w'.cell? ⟨g2,8,none⟩=some (.string f0.e.key)∧w'.cell? ⟨g2,9,none⟩=some (.string f0.e.old)∧w'.cell? ⟨g2,10,none⟩=some (.string f0.e.val)∧w'.cell? ⟨g2,11,none⟩=some (.int .u8 (f1.st:Int))∧w'.cell? ⟨g2,12,none⟩=some (.int .i64 f1.ix)∧w'.cell? ⟨g2,13,none⟩=some (.int .i64 f1.bx)∧w'.cell? ⟨g2,14,none⟩=some (.int .i64 f1.yb)∧w'.cell? ⟨g2,15,none⟩=some (.int .u8 (f1.e.k:Int))∧w'.cell? ⟨g2,16,none⟩=some (.int .i64 f1.e.cl)∧w'.cell? ⟨g2,17,none⟩=some (.int .i64 f1.e.sq)∧w'.cell? ⟨g2,18,none⟩=some (.int .u8 (f1.e.ok:Int))∧w'.cell? ⟨g2,19,none⟩=some (.string f1.e.key)∧w'.cell? ⟨g2,20,none⟩=some (.string f1.e.old)∧w'.cell? ⟨g2,21,none⟩=some (.string f1.e.val)
theorem zva (F:Nat) (caps:Array Value) (x2 x3 x4 x5 x6 x7 x8 x9 x10 x11 x12 x13:Value) (f0 f1:CopL) (b0 b1:Bool) (w:World) (hgo:Enters Tryz.prog F) (h0:Asks w F caps f0 b0) (h1:Asks w F caps f1 b1) :
 (cL 124 #[.agg #[.func (.func F) #[] caps,.int .i64 0,x2,x3,x4,x5,x6,x7,x8,x9,x10,x11,x12,x13],.agg (f0,f1)] w (.int .i64 (useL 0 b0 b1 f0 f1)):Prop):=by
 have hE:=((Ext.refl w).alloc (.cells #[.func (.func F) #[] caps,.int .i64 0,x2,x3,x4,x5,x6,x7,x8,x9,x10,x11,x12,x13] 179)).alloc (.cells (f0,f1) 93)
 have hR:=zaa ((Ext.refl _).alloc (.cells (f0,f1) 93)) (heap_alloc_new w (.cells #[.func (.func F) #[] caps,.int .i64 0,x2,x3,x4,x5,x6,x7,x8,x9,x10,x11,x12,x13] 179))
 have hT:=TwoL.new (w.alloc (.cells #[.func (.func F) #[] caps,.int .i64 0,x2,x3,x4,x5,x6,x7,x8,x9,x10,x11,x12,x13] 179)) f0 f1
 rw [World.size_alloc] at hT
 have HE:=qj hE
 have HR:=qj hR
 have HT:=qj hT
 have H0:=qj (h0.ext hE)
 have H1:=qj (h1.ext hE)
 have HO:=qj zca
 have hz:useL 0 b0 b1 f0 f1=(if b0 then (if b1 then (if 0<balI f1.bx f1.yb f0.bx f0.yb then 1 else 0) else 0) else if b1 then 1 else -1):=by
  by_cases hh:gtL f1.bx f1.yb f0.bx f0.yb
  ·have hp:=zfp.2 hh
   unfold useL zco
   cases b0 <;> cases b1 <;> simp [hh,hp]
  ·have hp:¬0<balI f1.bx f1.yb f0.bx f0.yb:=fun h=>hh (zfp.1 h)
   unfold useL zco
   cases b0 <;> cases b1 <;> simp [hh,hp]
 have HZ:=qj (fun V=>zmc f1.bx f1.yb f0.bx f0.yb V)
 rw [hz]
 generalize balI f1.bx f1.yb f0.bx f0.yb=z at *
 clear hE hR hT h0 h1 hz
 unfold Asks at H0 H1
 unfold Enters at hgo
 have hi0:=fun w=>(zgy 0 1 w).1
 have hi1:=fun w=>(zgy 0 1 w).2
 cases b0 <;> cases b1 <;> by_cases hp:0<z
 all_goals
  first | have hpb:=decide_eq_false hp | have hpb:=decide_eq_true hp
  try rw [if_pos hp]
  try rw [if_neg hp]
  clear hp
  go_enter Tryz.func124,Tryz.ntmps124
  go_upto_region 2 with (fail)
  generalize ((w.alloc (.cells #[.func (.func F) #[] caps,.int .i64 0,x2,x3,x4,x5,x6,x7,x8,x9,x10,x11,x12,x13] 179)).alloc (.cells (f0,f1) 93))=W at *
  generalize w.heap.size+1=g2 at *
  generalize w.heap.size=g at *
  have hs1:=(zbw HR.out HT.out (Ext.refl W)).2.1
  go_region_held3 (fun w'=>w'.cell? (aD g 1)=some (.int .i64 0))
   (first | assumption | (refine (zbw HR.out HT.out ?_).2.1;repeat (first | exact Ext.refl _ | refine Ext.drew ?_)))
   (first
    | (go_at_call 67;((with_reducible refine (HO.out _ (by simp) _).mono ?_);rintro e w1 ⟨rfl,rfl⟩)))
  all_goals
   clear hs1
   go_wp2_with fail
   refine wp_loop_rounds 3 ?_
   have HX:=qj (Ext.refl W).drew
   iterate 2
    rw [rounds_succ]
    go_upto_region 5 with (fail)
    have HX:=qj HX.out.drew
    refine wp_region_held_drew (S:=SCU g g2 F caps 0 f0 f1) (by kernel_rfl) (zbw HR.out HT.out HX.out) (fun hHeld=>?_)
    refine uk (i:=0) (oi:=⟨some 17,.fieldAddr 179 (.tmp 2) 0,0, "slot.go:172",#[],none⟩) rfl ?_
    try simp only [Act.put,sT,s0,s1]
    refine uk (i:=1) (oi:=⟨some 18,.load 177 (.tmp 17),177, "slot.go:172",#[⟨0,.data⟩],none⟩) rfl ?_
    try simp only [Act.put,sT,s0,s1]
    refine uk (i:=2) (oi:=⟨some 19,.move (.tmp 7),3, "slot.go:172",#[],none⟩) rfl ?_
    try simp only [Act.put,sT,s0,s1]
    refine uk (i:=3) (oi:=⟨some 20,.indexAddr 93 (.tmp 3) (.tmp 19),0, "slot.go:172",#[⟨2,.data⟩],none⟩) rfl ?_
    try simp only [Act.put,sT,s0,s1]
    refine uk (i:=4) (oi:=⟨some 21,.load 92 (.tmp 20),92, "slot.go:172",#[⟨3,.data⟩],none⟩) rfl ?_
    try simp only [Act.put,sT,s0,s1]
    refine wpAnyH_ready (rs:=[5]) (by kernel_rfl) (by simp) ?_
    refine AllReadyH.cons (o:=⟨some 22,.call { callee:=.value (.tmp 18),args:=#[.tmp 21],argTypes:=#[92] },4, "slot.go:172",#[⟨1,.data⟩,⟨4,.data⟩],none⟩) rfl (fun K hK=>?_) AllReadyH.nil
    go_simp
    first | (with_reducible refine (H0.out _ HX.out).mono ?_) | (with_reducible refine (H1.out _ HX.out).mono ?_)
    rintro e w1 ⟨rfl,hx⟩
    have HX:=qj (HX.out.trans hx)
    clear hx hHeld
    go_wp2_with fail
    refine hK.out _ _ (zbw HR.out HT.out HX.out) (fun hHeld=>?_)
    clear hK K
    try simp only [Act.put,sT,s0,s1]
    refine uk (i:=6) (oi:=⟨some 23,.move (.tmp 22),4, "slot.go:172",#[⟨5,.data⟩,⟨5,.chain⟩],none⟩) rfl ?_
    try simp only [Act.put,sT,s0,s1]
    refine uk (i:=7) (oi:=⟨some 24,.move (.tmp 5),3, "slot.go:172",#[⟨6,.guard⟩],some (6,true)⟩) rfl ?_
    try simp only [Act.put,sT,s0,s1]
    refine uk (i:=8) (oi:=⟨some 25,.binOp .eql 3 (.tmp 24) (.const (.int .i64 (-1))) 3,4, "slot.go:172",#[⟨7,.data⟩,⟨6,.guard⟩],some (6,true)⟩) rfl ?_
    try simp only [Act.put,sT,s0,s1]
    refine uk (i:=9) (oi:=⟨some 26,.move (.tmp 25),4, "slot.go:172",#[⟨8,.data⟩,⟨6,.chain⟩,⟨6,.guard⟩],some (6,true)⟩) rfl ?_
    try simp only [Act.put,sT,s0,s1]
    refine uk (i:=10) (oi:=⟨some 27,.move (.tmp 7),3, "slot.go:172",#[⟨9,.guard⟩],some (9,false)⟩) rfl ?_
    try simp only [Act.put,sT,s0,s1]
    refine uk (i:=11) (oi:=⟨some 28,.indexAddr 93 (.tmp 3) (.tmp 27),0, "slot.go:172",#[⟨10,.data⟩,⟨9,.guard⟩],some (9,false)⟩) rfl ?_
    try simp only [Act.put,sT,s0,s1]
    refine uk (i:=12) (oi:=⟨some 29,.fieldAddr 92 (.tmp 28) 2,0, "slot.go:172",#[⟨11,.data⟩,⟨9,.guard⟩],some (9,false)⟩) rfl ?_
    try simp only [Act.put,sT,s0,s1]
    refine uk (i:=13) (oi:=⟨some 30,.load 38 (.tmp 29),38, "slot.go:172",#[⟨12,.data⟩,⟨9,.guard⟩],some (9,false)⟩) rfl ?_
    try simp only [Act.put,sT,s0,s1]
    refine uk (i:=14) (oi:=⟨some 31,.move (.tmp 5),3, "slot.go:172",#[⟨9,.guard⟩],some (9,false)⟩) rfl ?_
    try simp only [Act.put,sT,s0,s1]
    refine uk (i:=15) (oi:=⟨some 32,.indexAddr 93 (.tmp 3) (.tmp 31),0, "slot.go:172",#[⟨14,.data⟩,⟨9,.guard⟩],some (9,false)⟩) rfl ?_
    try simp only [Act.put,sT,s0,s1]
    refine uk (i:=16) (oi:=⟨some 33,.fieldAddr 92 (.tmp 32) 2,0, "slot.go:172",#[⟨15,.data⟩,⟨9,.guard⟩],some (9,false)⟩) rfl ?_
    try simp only [Act.put,sT,s0,s1]
    refine uk (i:=17) (oi:=⟨some 34,.load 38 (.tmp 33),38, "slot.go:172",#[⟨16,.data⟩,⟨9,.guard⟩],some (9,false)⟩) rfl ?_
    try simp only [Act.put,sT,s0,s1]
    first
     | (refine uk (i:=18) (oi:=⟨some 35,.call { callee:=.value (.func 163),args:=#[.tmp 30,.tmp 34],argTypes:=#[38,38] },3, "slot.go:172",#[⟨13,.data⟩,⟨17,.data⟩,⟨9,.chain⟩,⟨9,.guard⟩],some (9,false)⟩) rfl ?_ (hy:=Or.inr ⟨by rfl,rfl⟩)
        try simp only [Act.put,sT,s0,s1])
     | (refine wpAnyH_ready (rs:=[18]) (by kernel_rfl) (by simp) ?_
        refine AllReadyH.cons (o:=⟨some 35,.call { callee:=.value (.func 163),args:=#[.tmp 30,.tmp 34],argTypes:=#[38,38] },3, "slot.go:172",#[⟨13,.data⟩,⟨17,.data⟩,⟨9,.chain⟩,⟨9,.guard⟩],some (9,false)⟩) rfl (fun K hK=>?_) AllReadyH.nil
        go_simp
        refine (HZ.out _).mono ?_
        rintro e w1 ⟨rfl,hx⟩
        have HX:=qj (HX.out.trans hx)
        clear hx hHeld
        go_wp2_with fail
        refine hK.out _ _ (zbw HR.out HT.out HX.out) (fun hHeld=>?_)
        clear hK K
        try simp only [Act.put,sT,s0,s1])
    refine uk (i:=19) (oi:=⟨some 36,.binOp .gtr 3 (.tmp 35) (.const (.int .i64 0)) 3,4, "slot.go:172",#[⟨18,.data⟩,⟨9,.guard⟩],some (9,false)⟩) rfl ?_
    try simp only [Act.put,sT,s0,s1]
    refine uk (i:=20) (oi:=⟨some 37,.pick (.tmp 26) (.const (.bool true)) (.tmp 36),4, "slot.go:172",#[⟨9,.data⟩,⟨19,.data⟩,⟨6,.guard⟩],some (6,true)⟩) rfl ?_
    try simp only [Act.put,sT,s0,s1]
    refine uk (i:=21) (oi:=⟨some 38,.pick (.tmp 23) (.tmp 37) (.const (.bool false)),4, "slot.go:172",#[⟨6,.data⟩,⟨20,.data⟩],none⟩) rfl ?_
    try simp only [Act.put,sT,s0,s1]
    refine wpAnyH_done (by kernel_rfl) ?_ _
    clear hHeld
    go_wp2_with fail
   rw [rounds_succ]
   go_wp2_with fail
   go_ret
   exact ⟨rfl,HE.out.trans HX.out⟩
theorem zvd (F:Nat) (caps:Array Value) (x2 x3 x4 x5 x6 x7 x8 x9 x10 x11 x12 x13:Value) (f0 f1:CopL) (b0 b1:Bool) (w:World) (hgo:Enters Tryz.prog F) (h0:Asks w F caps f0 b0) (h1:Asks w F caps f1 b1) :
 (cL 124 #[.agg #[.func (.func F) #[] caps,.int .i64 1,x2,x3,x4,x5,x6,x7,x8,x9,x10,x11,x12,x13],.agg (f0,f1)] w (.int .i64 (useL 1 b0 b1 f0 f1)):Prop):=by
 have hE:=((Ext.refl w).alloc (.cells #[.func (.func F) #[] caps,.int .i64 1,x2,x3,x4,x5,x6,x7,x8,x9,x10,x11,x12,x13] 179)).alloc (.cells (f0,f1) 93)
 have hR:=zaa ((Ext.refl _).alloc (.cells (f0,f1) 93)) (heap_alloc_new w (.cells #[.func (.func F) #[] caps,.int .i64 1,x2,x3,x4,x5,x6,x7,x8,x9,x10,x11,x12,x13] 179))
 have hT:=TwoL.new (w.alloc (.cells #[.func (.func F) #[] caps,.int .i64 1,x2,x3,x4,x5,x6,x7,x8,x9,x10,x11,x12,x13] 179)) f0 f1
 rw [World.size_alloc] at hT
 have HE:=qj hE
 have HR:=qj hR
 have HT:=qj hT
 have H0:=qj (h0.ext hE)
 have H1:=qj (h1.ext hE)
 have HO:=qj zca
 have hz:useL 1 b0 b1 f0 f1=(if b0 then (if b1 then (if 0<balI f0.bx f0.yb f1.bx f1.yb then 0 else 1) else 0) else if b1 then 1 else -1):=by
  by_cases hh:gtL f0.bx f0.yb f1.bx f1.yb
  ·have hp:=zfp.2 hh
   unfold useL zco
   cases b0 <;> cases b1 <;> simp [hh,hp]
  ·have hp:¬0<balI f0.bx f0.yb f1.bx f1.yb:=fun h=>hh (zfp.1 h)
   unfold useL zco
   cases b0 <;> cases b1 <;> simp [hh,hp]
 have HZ:=qj (fun V=>zmc f0.bx f0.yb f1.bx f1.yb V)
 rw [hz]
 generalize balI f0.bx f0.yb f1.bx f1.yb=z at *
 clear hE hR hT h0 h1 hz
 unfold Asks at H0 H1
 unfold Enters at hgo
 have hi0:=fun w=>(zgy 1 0 w).1
 have hi1:=fun w=>(zgy 1 0 w).2
 cases b0 <;> cases b1 <;> by_cases hp:0<z
 all_goals
  first | have hpb:=decide_eq_false hp | have hpb:=decide_eq_true hp
  try rw [if_pos hp]
  try rw [if_neg hp]
  clear hp
  go_enter Tryz.func124,Tryz.ntmps124
  go_upto_region 2 with (fail)
  generalize ((w.alloc (.cells #[.func (.func F) #[] caps,.int .i64 1,x2,x3,x4,x5,x6,x7,x8,x9,x10,x11,x12,x13] 179)).alloc (.cells (f0,f1) 93))=W at *
  generalize w.heap.size+1=g2 at *
  generalize w.heap.size=g at *
  have hs1:=(zbw HR.out HT.out (Ext.refl W)).2.1
  go_region_held3 (fun w'=>w'.cell? (aD g 1)=some (.int .i64 1))
   (first | assumption | (refine (zbw HR.out HT.out ?_).2.1;repeat (first | exact Ext.refl _ | refine Ext.drew ?_)))
   (first
    | (go_at_call 67;((with_reducible refine (HO.out _ (by simp) _).mono ?_);rintro e w1 ⟨rfl,rfl⟩)))
  all_goals
   clear hs1
   go_wp2_with fail
   refine wp_loop_rounds 3 ?_
   have HX:=qj (Ext.refl W).drew
   iterate 2
    rw [rounds_succ]
    go_upto_region 5 with (fail)
    have HX:=qj HX.out.drew
    refine wp_region_held_drew (S:=SCU g g2 F caps 1 f0 f1) (by kernel_rfl) (zbw HR.out HT.out HX.out) (fun hHeld=>?_)
    refine uk (i:=0) (oi:=⟨some 17,.fieldAddr 179 (.tmp 2) 0,0, "slot.go:172",#[],none⟩) rfl ?_
    try simp only [Act.put,sT,s0,s1]
    refine uk (i:=1) (oi:=⟨some 18,.load 177 (.tmp 17),177, "slot.go:172",#[⟨0,.data⟩],none⟩) rfl ?_
    try simp only [Act.put,sT,s0,s1]
    refine uk (i:=2) (oi:=⟨some 19,.move (.tmp 7),3, "slot.go:172",#[],none⟩) rfl ?_
    try simp only [Act.put,sT,s0,s1]
    refine uk (i:=3) (oi:=⟨some 20,.indexAddr 93 (.tmp 3) (.tmp 19),0, "slot.go:172",#[⟨2,.data⟩],none⟩) rfl ?_
    try simp only [Act.put,sT,s0,s1]
    refine uk (i:=4) (oi:=⟨some 21,.load 92 (.tmp 20),92, "slot.go:172",#[⟨3,.data⟩],none⟩) rfl ?_
    try simp only [Act.put,sT,s0,s1]
    refine wpAnyH_ready (rs:=[5]) (by kernel_rfl) (by simp) ?_
    refine AllReadyH.cons (o:=⟨some 22,.call { callee:=.value (.tmp 18),args:=#[.tmp 21],argTypes:=#[92] },4, "slot.go:172",#[⟨1,.data⟩,⟨4,.data⟩],none⟩) rfl (fun K hK=>?_) AllReadyH.nil
    go_simp
    first | (with_reducible refine (H0.out _ HX.out).mono ?_) | (with_reducible refine (H1.out _ HX.out).mono ?_)
    rintro e w1 ⟨rfl,hx⟩
    have HX:=qj (HX.out.trans hx)
    clear hx hHeld
    go_wp2_with fail
    refine hK.out _ _ (zbw HR.out HT.out HX.out) (fun hHeld=>?_)
    clear hK K
    try simp only [Act.put,sT,s0,s1]
    refine uk (i:=6) (oi:=⟨some 23,.move (.tmp 22),4, "slot.go:172",#[⟨5,.data⟩,⟨5,.chain⟩],none⟩) rfl ?_
    try simp only [Act.put,sT,s0,s1]
    refine uk (i:=7) (oi:=⟨some 24,.move (.tmp 5),3, "slot.go:172",#[⟨6,.guard⟩],some (6,true)⟩) rfl ?_
    try simp only [Act.put,sT,s0,s1]
    refine uk (i:=8) (oi:=⟨some 25,.binOp .eql 3 (.tmp 24) (.const (.int .i64 (-1))) 3,4, "slot.go:172",#[⟨7,.data⟩,⟨6,.guard⟩],some (6,true)⟩) rfl ?_
    try simp only [Act.put,sT,s0,s1]
    refine uk (i:=9) (oi:=⟨some 26,.move (.tmp 25),4, "slot.go:172",#[⟨8,.data⟩,⟨6,.chain⟩,⟨6,.guard⟩],some (6,true)⟩) rfl ?_
    try simp only [Act.put,sT,s0,s1]
    refine uk (i:=10) (oi:=⟨some 27,.move (.tmp 7),3, "slot.go:172",#[⟨9,.guard⟩],some (9,false)⟩) rfl ?_
    try simp only [Act.put,sT,s0,s1]
    refine uk (i:=11) (oi:=⟨some 28,.indexAddr 93 (.tmp 3) (.tmp 27),0, "slot.go:172",#[⟨10,.data⟩,⟨9,.guard⟩],some (9,false)⟩) rfl ?_
    try simp only [Act.put,sT,s0,s1]
    refine uk (i:=12) (oi:=⟨some 29,.fieldAddr 92 (.tmp 28) 2,0, "slot.go:172",#[⟨11,.data⟩,⟨9,.guard⟩],some (9,false)⟩) rfl ?_
    try simp only [Act.put,sT,s0,s1]
    refine uk (i:=13) (oi:=⟨some 30,.load 38 (.tmp 29),38, "slot.go:172",#[⟨12,.data⟩,⟨9,.guard⟩],some (9,false)⟩) rfl ?_
    try simp only [Act.put,sT,s0,s1]
    refine uk (i:=14) (oi:=⟨some 31,.move (.tmp 5),3, "slot.go:172",#[⟨9,.guard⟩],some (9,false)⟩) rfl ?_
    try simp only [Act.put,sT,s0,s1]
    refine uk (i:=15) (oi:=⟨some 32,.indexAddr 93 (.tmp 3) (.tmp 31),0, "slot.go:172",#[⟨14,.data⟩,⟨9,.guard⟩],some (9,false)⟩) rfl ?_
    try simp only [Act.put,sT,s0,s1]
    refine uk (i:=16) (oi:=⟨some 33,.fieldAddr 92 (.tmp 32) 2,0, "slot.go:172",#[⟨15,.data⟩,⟨9,.guard⟩],some (9,false)⟩) rfl ?_
    try simp only [Act.put,sT,s0,s1]
    refine uk (i:=17) (oi:=⟨some 34,.load 38 (.tmp 33),38, "slot.go:172",#[⟨16,.data⟩,⟨9,.guard⟩],some (9,false)⟩) rfl ?_
    try simp only [Act.put,sT,s0,s1]
    first
     | (refine uk (i:=18) (oi:=⟨some 35,.call { callee:=.value (.func 163),args:=#[.tmp 30,.tmp 34],argTypes:=#[38,38] },3, "slot.go:172",#[⟨13,.data⟩,⟨17,.data⟩,⟨9,.chain⟩,⟨9,.guard⟩],some (9,false)⟩) rfl ?_ (hy:=Or.inr ⟨by rfl,rfl⟩)
        try simp only [Act.put,sT,s0,s1])
     | (refine wpAnyH_ready (rs:=[18]) (by kernel_rfl) (by simp) ?_
        refine AllReadyH.cons (o:=⟨some 35,.call { callee:=.value (.func 163),args:=#[.tmp 30,.tmp 34],argTypes:=#[38,38] },3, "slot.go:172",#[⟨13,.data⟩,⟨17,.data⟩,⟨9,.chain⟩,⟨9,.guard⟩],some (9,false)⟩) rfl (fun K hK=>?_) AllReadyH.nil
        go_simp
        refine (HZ.out _).mono ?_
        rintro e w1 ⟨rfl,hx⟩
        have HX:=qj (HX.out.trans hx)
        clear hx hHeld
        go_wp2_with fail
        refine hK.out _ _ (zbw HR.out HT.out HX.out) (fun hHeld=>?_)
        clear hK K
        try simp only [Act.put,sT,s0,s1])
    refine uk (i:=19) (oi:=⟨some 36,.binOp .gtr 3 (.tmp 35) (.const (.int .i64 0)) 3,4, "slot.go:172",#[⟨18,.data⟩,⟨9,.guard⟩],some (9,false)⟩) rfl ?_
    try simp only [Act.put,sT,s0,s1]
    refine uk (i:=20) (oi:=⟨some 37,.pick (.tmp 26) (.const (.bool true)) (.tmp 36),4, "slot.go:172",#[⟨9,.data⟩,⟨19,.data⟩,⟨6,.guard⟩],some (6,true)⟩) rfl ?_
    try simp only [Act.put,sT,s0,s1]
    refine uk (i:=21) (oi:=⟨some 38,.pick (.tmp 23) (.tmp 37) (.const (.bool false)),4, "slot.go:172",#[⟨6,.data⟩,⟨20,.data⟩],none⟩) rfl ?_
    try simp only [Act.put,sT,s0,s1]
    refine wpAnyH_done (by kernel_rfl) ?_ _
    clear hHeld
    go_wp2_with fail
   rw [rounds_succ]
   go_wp2_with fail
   go_ret
   exact ⟨rfl,HE.out.trans HX.out⟩
theorem zmT (F:Nat) (caps:Array Value) (fi:Int) (hfi:fi=0∨fi=1) (x2 x3 x4 x5 x6 x7 x8 x9 x10 x11 x12 x13:Value) (f0 f1:CopL) (b0 b1:Bool) (w:World) (hgo:Enters Tryz.prog F) (h0:Asks w F caps f0 b0) (h1:Asks w F caps f1 b1) :
 (cL 124 #[.agg #[.func (.func F) #[] caps,.int .i64 fi,x2,x3,x4,x5,x6,x7,x8,x9,x10,x11,x12,x13],.agg (f0,f1)] w (.int .i64 (useL fi b0 b1 f0 f1)):Prop):=by
 rcases hfi with rfl | rfl
 ·exact zva F caps x2 x3 x4 x5 x6 x7 x8 x9 x10 x11 x12 x13 f0 f1 b0 b1 w hgo h0 h1
 ·exact zvd F caps x2 x3 x4 x5 x6 x7 x8 x9 x10 x11 x12 x13 f0 f1 b0 b1 w hgo h0 h1
structure WhS (w W:World) (p:Rec) (f0 f1:CopL) (g g1 g2:Nat) (rp:Array Value):Prop where
 rec_:zbj W g p
 two:TwoL W g1 f0 f1
 rep:W.heap[g2]?=some (.cells rp 115 (0,0))
 ext:Ext w W
 ne:g≠g2∧g1≠g2∧w.heap.size≤g2
theorem WhS.make (w:World) (p:Rec) (f0 f1:CopL):WhS w (((w.alloc (.cells p 90)).alloc (.cells (f0,f1) 93)).alloc (.cells Zk.b 115)) p f0 f1 w.heap.size (w.heap.size+1) (w.heap.size+1+1) Zk.b:=by
 have row:∀(V:World) (cs:Array Value) (t:TypeId) (k:Nat),k=V.heap.size→(V.alloc (.cells cs t)).heap[k]?=some (.cells cs t (0,0)):=fun V cs t k hk=>by subst hk;exact heap_alloc_new V _
 have past:∀(V:World) (o ob:Obj) (k:Nat),V.heap[k]?=some ob→(V.alloc o).heap[k]?=some ob:=fun V o ob k h=>zaa ((Ext.refl V).alloc o) h
 refine ⟨?_,?_,?_,?_,?_⟩
 ·exact past _ _ _ _ (past _ _ _ _ (row _ _ _ _ rfl))
 ·exact past _ _ _ _ (row _ _ _ _ (by simp))
 ·exact row _ _ _ _ (by simp)
 ·exact ((((Ext.refl w).alloc _).alloc _).alloc _)
 ·omega
theorem WhS.mono {w W W':World} {p:Rec} {f0 f1:CopL} {g g1 g2:Nat} {rp:Array Value} (h:WhS w W p f0 f1 g g1 g2 rp) (k:Ext W W'):WhS w W' p f0 f1 g g1 g2 rp :=
 ⟨h.rec_.ext k,h.two.ext k,zaa k h.rep,h.ext.trans k,h.ne⟩
theorem zfG {w:World} {g2:Nat} {x0 x1 x2 x3 x4 x5 x6 x7 x8 x9 x10:Value} (h:w.heap[g2]?=some (.cells #[x0,x1,x2,x3,x4,x5,x6,x7,x8,x9,x10] 115 (0,0))):(CW.mk w g2 [x0,x1,x2,x3,x4,x5,x6,x7,x8,x9,x10]:Prop):=⟨cell_of_row w g2 0 _ _ _ h,cell_of_row w g2 1 _ _ _ h,cell_of_row w g2 2 _ _ _ h,cell_of_row w g2 3 _ _ _ h,cell_of_row w g2 4 _ _ _ h,cell_of_row w g2 5 _ _ _ h,cell_of_row w g2 6 _ _ _ h,cell_of_row w g2 7 _ _ _ h,cell_of_row w g2 8 _ _ _ h,cell_of_row w g2 9 _ _ _ h,cell_of_row w g2 10 _ _ _ h⟩
theorem zau {w:World} {g:Nat} {t:TypeId} (l:List Value) (h:w.heap[g]?=some (.cells l.toArray t (0,0))) (o:Nat):w.rangeAt g o (l.drop o):=fun j v hv=>by
 rw [cell_of_row w g (o+j) _ _ _ h,List.getElem?_toArray,←List.getElem?_drop]
 exact hv
theorem ztG {w:World} {g1:Nat} {f0 f1:CopL} (h:TwoL w g1 f0 f1):w.cell? (aD g1 2)=some (.int .i64 f0.bx)∧w.cell? (aD g1 3)=some (.int .i64 f0.yb)∧w.cell? (aD g1 4)=some (.int .u8 (f0.e.k:Int))∧w.cell? (aD g1 5)=some (.int .i64 f0.e.cl)∧w.cell? (aD g1 6)=some (.int .i64 f0.e.sq)∧w.cell? (aD g1 7)=some (.int .u8 (f0.e.ok:Int))∧w.cell? (aD g1 8)=some (.string f0.e.key)∧w.cell? (aD g1 9)=some (.string f0.e.old)∧w.cell? (aD g1 10)=some (.string f0.e.val):=⟨cell_of_row w g1 2 _ _ _ h,cell_of_row w g1 3 _ _ _ h,cell_of_row w g1 4 _ _ _ h,cell_of_row w g1 5 _ _ _ h,cell_of_row w g1 6 _ _ _ h,cell_of_row w g1 7 _ _ _ h,cell_of_row w g1 8 _ _ _ h,cell_of_row w g1 9 _ _ _ h,cell_of_row w g1 10 _ _ _ h⟩
theorem ztW {w:World} {g1:Nat} {f0 f1:CopL} (h:TwoL w g1 f0 f1):w.cell? (aD g1 13)=some (.int .i64 f1.bx)∧w.cell? (aD g1 14)=some (.int .i64 f1.yb)∧w.cell? (aD g1 15)=some (.int .u8 (f1.e.k:Int))∧w.cell? (aD g1 16)=some (.int .i64 f1.e.cl)∧w.cell? (aD g1 17)=some (.int .i64 f1.e.sq)∧w.cell? (aD g1 18)=some (.int .u8 (f1.e.ok:Int))∧w.cell? (aD g1 19)=some (.string f1.e.key)∧w.cell? (aD g1 20)=some (.string f1.e.old)∧w.cell? (aD g1 21)=some (.string f1.e.val):=⟨cell_of_row w g1 13 _ _ _ h,cell_of_row w g1 14 _ _ _ h,cell_of_row w g1 15 _ _ _ h,cell_of_row w g1 16 _ _ _ h,cell_of_row w g1 17 _ _ _ h,cell_of_row w g1 18 _ _ _ h,cell_of_row w g1 19 _ _ _ h,cell_of_row w g1 20 _ _ _ h,cell_of_row w g1 21 _ _ _ h⟩
theorem WhS.put {w W:World} {p:Rec} {f0 f1:CopL} {g g1 g2:Nat} {z0 z1 z2 z3 z4 z5 z6 z7 z8 z9 z10:Value} (h:WhS w W p f0 f1 g g1 g2 #[z0,z1,z2,z3,z4,z5,z6,z7,z8,z9,z10]) (x0 x1 x2 x3 x4 x5 x6 x7 x8 x9 x10:Value) :
 WhS w (((SW.mk W g2 [x0,x1,x2,x3,x4,x5,x6,x7,x8,x9,x10]:World))) p f0 f1 g g1 g2 #[x0,x1,x2,x3,x4,x5,x6,x7,x8,x9,x10] :=
 ⟨zkE h.rec_ h.ne.1 _ _ _ _ _ _ _ _ _ _ _,zkE h.two h.ne.2.1 _ _ _ _ _ _ _ _ _ _ _,zfe h.rep _ _ _ _ _ _ _ _ _ _ _,zfA h.ext h.ne.2.2 _ _ _ _ _ _ _ _ _ _ _,h.ne⟩
theorem WhS.put0 {w W:World} {p:Rec} {f0 f1:CopL} {g g1 g2:Nat} {z0 z1 z2 z3 z4 z5 z6 z7 z8 z9 z10:Value} (h:WhS w W p f0 f1 g g1 g2 #[z0,z1,z2,z3,z4,z5,z6,z7,z8,z9,z10]) (x:Value) :
 WhS w (W.setCell (aD g2 0) x) p f0 f1 g g1 g2 #[x,z1,z2,z3,z4,z5,z6,z7,z8,z9,z10] :=
 ⟨zbH h.rec_ h.ne.1 [x] 0,zbH h.two h.ne.2.1 [x] 0,zbG h.rep x,zaK h.ext h.ne.2.2 [x] 0,h.ne⟩
end Go.Proofs.YtdbpdhlecgoclaaGreatDoor
