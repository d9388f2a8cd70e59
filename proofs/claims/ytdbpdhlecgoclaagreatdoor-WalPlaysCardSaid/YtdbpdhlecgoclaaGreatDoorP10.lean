/-
  The contracts of entry's small functions: isWithin,mayBallot,limits,texts and its methods.
-/
import Derived.Test.YtdbpdhlecgoclaaGreatDoorP00
import Derived.Test.YtdbpdhlecgoclaaGreatDoorP01
import Derived.Test.YtdbpdhlecgoclaaGreatDoorP06
import Derived.Test.YtdbpdhlecgoclaaGreatDoorP07
import Derived.Test.YtdbpdhlecgoclaaGreatDoorP08
import Derived.Test.YtdbpdhlecgoclaaGreatDoorP09
import Derived.Deep.RegionHeld3
import Derived.Laws.EntriesVeiled
namespace Go.Proofs.YtdbpdhlecgoclaaGreatDoor
set_option maxRecDepth 100000
set_option maxHeartbeats 6400000
open Go Go.RowKit
theorem zdb (a n b:Int) (w:World) :
 Calls Tryz.prog 116 #[a,n,b] w fun e w'=>e=.returned (.bool (decide (a≤n) && decide (n≤b)))∧w'=w:=by
 cases h1:decide (a≤n) <;> cases h2:decide (n≤b)
 all_goals
  go_enter Tryz.func116,Tryz.ntmps116
  go_wp2_with fail
  go_ret
  exact ⟨rfl,rfl⟩
def limK (k:Nat):Int:=if 1≤k∧k≤4 then 8 else 0
def limO (k:Nat):Int:=if k=4 then 16 else 0
def limV (k:Nat):Int:=if k=4∨k=2 then 16 else 0
theorem zlE (k:Nat) (w:World) :
 (cL 173 #[k] w (.agg #[.int .i64 (limK k),.int .i64 (limO k),.int .i64 (limV k)]):Prop):=by
 by_cases h4:k=4
 ·subst h4
  try clear h4
  try clear h2
  try clear h1
  go_enter Tryz.func173,Tryz.ntmps173
  go_wp2_with fail
  refine bodyPost_ret (v:=.agg #[.int .i64 8,.int .i64 16,.int .i64 16]) ?_ rfl ⟨rfl,(Ext.refl w).alloc _⟩
  simp [results,Tryz.results173,go_sem]
 by_cases h2:k=2
 ·subst h2
  try clear h4
  try clear h2
  try clear h1
  go_enter Tryz.func173,Tryz.ntmps173
  go_wp2_with fail
  refine bodyPost_ret (v:=.agg #[.int .i64 8,.int .i64 0,.int .i64 16]) ?_ rfl ⟨rfl,(Ext.refl w).alloc _⟩
  simp [results,Tryz.results173,go_sem]
 by_cases h1:k=1
 ·subst h1
  try clear h4
  try clear h2
  try clear h1
  go_enter Tryz.func173,Tryz.ntmps173
  go_wp2_with fail
  refine bodyPost_ret (v:=.agg #[.int .i64 8,.int .i64 0,.int .i64 0]) ?_ rfl ⟨rfl,(Ext.refl w).alloc _⟩
  simp [results,Tryz.results173,go_sem]
 by_cases h3:k=3
 ·subst h3
  try clear h4
  try clear h2
  try clear h1
  go_enter Tryz.func173,Tryz.ntmps173
  go_wp2_with fail
  refine bodyPost_ret (v:=.agg #[.int .i64 8,.int .i64 0,.int .i64 0]) ?_ rfl ⟨rfl,(Ext.refl w).alloc _⟩
  simp [results,Tryz.results173,go_sem]
 ·have e1:limK k=0:=if_neg (by omega)
  have e2:limO k=0:=if_neg (by omega)
  have e3:limV k=0:=if_neg (by omega)
  rw [e1,e2,e3]
  have g4:((k:Int) == 4)=false:=by rw [beq_eq_false_iff_ne];omega
  have g2:((k:Int) == 2)=false:=by rw [beq_eq_false_iff_ne];omega
  have g1:((k:Int) == 1)=false:=by rw [beq_eq_false_iff_ne];omega
  have g3:((k:Int) == 3)=false:=by rw [beq_eq_false_iff_ne];omega
  clear e1 e2 e3 h4 h2 h1 h3
  go_enter Tryz.func173,Tryz.ntmps173
  go_wp2_with fail
  refine bodyPost_ret (v:=.agg Zk.i) ?_ rfl ⟨rfl,(Ext.refl w).alloc _⟩
  simp [results,Tryz.results173,go_sem]
theorem zfJ (w:World) :
 (cL 149 #[] w (.agg #[.func (.func 174) #[] #[],.func (.func 175) #[] #[],.func (.func 176) #[] #[]]):Prop):=by
 go_enter Tryz.func149,Tryz.ntmps149
 go_wp2_with fail
 refine bodyPost_ret (v:=.agg #[.func (.func 174) #[] #[],.func (.func 175) #[] #[],.func (.func 176) #[] #[]]) ?_ rfl ⟨rfl,(Ext.refl w).alloc _⟩
 simp [results,Tryz.results149,go_sem]
theorem zfW (w:World):(Instr.index 209 (.agg #[.func (.func 174) #[] #[],.func (.func 175) #[] #[],.func (.func 176) #[] #[]]) (.int .i64 0)).run Tryz.prog w=.ok (.func (.func 174) #[] #[]) w:=by show _=_;kernel_rfl
theorem zgf (w:World):(Instr.index 209 (.agg #[.func (.func 174) #[] #[],.func (.func 175) #[] #[],.func (.func 176) #[] #[]]) (.int .i64 1)).run Tryz.prog w=.ok (.func (.func 175) #[] #[]) w:=by show _=_;kernel_rfl
theorem zgn (w:World):(Instr.index 209 (.agg #[.func (.func 174) #[] #[],.func (.func 175) #[] #[],.func (.func 176) #[] #[]]) (.int .i64 2)).run Tryz.prog w=.ok (.func (.func 176) #[] #[]) w:=by show _=_;kernel_rfl
theorem zmQ (g:Nat) (w:World) :
 Calls Tryz.prog 174 #[aD g 0] w fun e w'=>e=.returned (aD g 1)∧w'=w:=by
 go_enter Tryz.func174,Tryz.ntmps174
 go_wp2_with fail
 go_ret
 exact ⟨rfl,rfl⟩
theorem zmO (g:Nat) (w:World) :
 Calls Tryz.prog 175 #[aD g 0] w fun e w'=>e=.returned (aD g 2)∧w'=w:=by
 go_enter Tryz.func175,Tryz.ntmps175
 go_wp2_with fail
 go_ret
 exact ⟨rfl,rfl⟩
theorem zmv (g:Nat) (w:World) :
 Calls Tryz.prog 176 #[aD g 0] w fun e w'=>e=.returned (aD g 3)∧w'=w:=by
 go_enter Tryz.func176,Tryz.ntmps176
 go_wp2_with fail
 go_ret
 exact ⟨rfl,rfl⟩
theorem zbc (x y:Int) (w:World) :
 (cL 59 #[.agg #[x,y]] w (.bool (balE x y)):Prop):=by
 have HE:=qj ((Ext.refl w).alloc (.cells #[x,y] 38))
 have hb:balE x y=((decide (1≤x) && decide (x≤1099511627776)) && (decide (0≤y) && decide (y≤6))):=by
  rw [Bool.eq_iff_iff,zbr]
  simp [and_assoc]
 have HB:=qj hb
 rw [hb]
 clear hb
 cases h1:(decide (1≤x) && decide (x≤1099511627776))
 all_goals
  have H1:=qj h1
  clear h1
  go_enter Tryz.func59,Tryz.ntmps59
  go_wp2_with fail
  refine (zdb _ _ _ _).mono ?_
  rw [H1.out]
  rintro e w1 ⟨rfl,rfl⟩
  go_wp2_with (refine (zdb _ _ _ _).mono ?_;rintro e w1 ⟨rfl,rfl⟩)
  go_ret
  exact ⟨rfl,HE.out⟩
theorem zeE (s:ByteArray):s.toList.isEmpty=decide (s.size=0):=by
 rw [ByteArray.toList_eq]
 obtain ⟨⟨l⟩⟩:=s
 cases l with
 | nil=>rfl
 | cons x r =>
  have h:¬(ByteArray.size ⟨⟨x :: r⟩⟩=0):=fun h=>by cases h
  rw [decide_eq_false h]
  rfl
theorem zjp (s:ByteArray):(!s.toList.isEmpty)=decide (s.size≠0):=by
 rw [zeE]
 by_cases h:s.size=0 <;> simp [h]
theorem zhU {k:Nat} {key old val:ByteArray} (h:limK k<key.size∨limO k<old.size∨limV k<val.size):opOk k key old val=false:=by
 rw [Bool.eq_false_iff]
 intro hk
 have:=zcH.1 hk
 unfold limK limO limV at h
 split at h <;> split at h <;> split at h <;> omega
theorem zjR {k:Nat} {key old val:ByteArray} (h:¬(limK k<key.size∨limO k<old.size∨limV k<val.size)):opOk k key old val=decide (key.size≠0):=by
 rw [Bool.eq_iff_iff,zcH,decide_eq_true_iff]
 unfold limK limO limV at h
 split at h <;> split at h <;> split at h <;> omega
theorem zbz {w:World} {g:Nat} {x0 x1 x2 x3:Value} {t:TypeId} (h:w.heap[g]?=some (.cells #[x0,x1,x2,x3] t (0,0))) :
 (CW.mk w g [x0,x1,x2,x3]:Prop) :=
 ⟨cell_of_row w g 0 _ _ _ h,cell_of_row w g 1 _ _ _ h,cell_of_row w g 2 _ _ _ h,cell_of_row w g 3 _ _ _ h⟩
theorem zfh {w:World} {g:Nat} {x0 x1 x2:Value} {t:TypeId} (h:w.heap[g]?=some (.cells #[x0,x1,x2] t (0,0))) :
 (CW.mk w g [x0,x1,x2]:Prop) :=
 ⟨cell_of_row w g 0 _ _ _ h,cell_of_row w g 1 _ _ _ h,cell_of_row w g 2 _ _ _ h⟩
theorem zab {w w':World} {g:Nat} {o:Obj} (h:w.heap[g]?=some o) (k:Ext w w'):w'.heap[g]?=some o:=(k.block g (Array.getElem?_eq_some_iff.1 h).1).trans h
theorem zps (k:Nat) (key old val:ByteArray) (w:World) :
 (cL 148 #[.agg #[k,key,old,val]] w (.bool (opOk k key old val)):Prop):=by
 have HE:=qj ((Ext.refl w).alloc (.cells #[k,key,old,val] 40))
 have HT:=qj (heap_alloc_new w (.cells #[k,key,old,val] 40))
 obtain ⟨a,ha⟩:∃a,limK k=a:=⟨_,rfl⟩
 obtain ⟨b,hb⟩:∃b,limO k=b:=⟨_,rfl⟩
 obtain ⟨c,hc⟩:∃c,limV k=c:=⟨_,rfl⟩
 obtain ⟨r,hr⟩:∃r,opOk k key old val=r:=⟨_,rfl⟩
 rw [hr]
 have HL:=qj (zlE k)
 rw [ha,hb,hc] at HL
 have fin:∀x y:Bool,x=y→Ending.returned (Value.bool x)=.returned (.bool y):=fun x y h=>by rw [h]
 go_enter Tryz.func148,Tryz.ntmps148
 go_wp2_with fail
 refine (HL.out _).mono ?_
 rintro e w1 ⟨rfl,hx⟩
 have hT:=zab HT.out hx
 have HE:=qj (HE.out.trans hx)
 have hx2:=(Ext.refl w1).alloc (.cells #[a,b,c] 135)
 have HM:=qj (heap_alloc_new w1 (.cells #[a,b,c] 135))
 have HT:=qj (zab hT hx2)
 obtain ⟨i0,i1,i2,i3⟩:=zbz HT.out
 have HE:=qj (HE.out.trans hx2)
 clear hx hT hx2
 go_wp2_with fail
 have hsz:(w1.alloc (.cells #[a,b,c] 135)).heap.size=w1.heap.size+1:=by simp
 generalize (w1.alloc (.cells #[a,b,c] 135))=w2 at *
 have HF:=qj (heap_alloc_new w2 (.cells #[k,key,old,val] 207))
 have hsz:w2.heap.size=w1.heap.size+1:=by assumption
 rw [hsz] at HF
 refine (zfJ _).mono ?_
 rintro e w3 ⟨rfl,hx⟩
 have hx2:=((Ext.refl w2).alloc (.cells #[k,key,old,val] 207)).trans hx
 have hF:=zab HF.out hx
 have hM:=zab HM.out hx2
 have hO:=zab HT.out hx2
 have HE:=qj (HE.out.trans hx2)
 clear i0 i1 i2 i3 hx hx2
 obtain ⟨f0,f1,f2,f3⟩:=zbz hF
 obtain ⟨m0,m1,m2⟩:=zfh hM
 obtain ⟨_,o1,_,_⟩:=zbz hO
 clear hF hM hO f0
 have t0:=zfW
 have t1:=zgf
 have t2:=zgn
 go_wp2_with fail
 refine wp_loop_rounds 4 ?_
 rw [rounds_succ]
 go_wp2_with fail
 go_region_held3 (fun w'=>w'.cell? (aD (w1.heap.size+1) 1)=some (.string key)∧w'.cell? (aD w1.heap.size 0)=some (.int .i64 a))
  (first | with_reducible exact ⟨f1,m0⟩ | go_keep)
  (first
   | (go_at_call 174;((with_reducible refine (zmQ _ _).mono ?_);rintro r w' ⟨rfl,rfl⟩)))
 by_cases q:a<(key.size:Int)
 ·have HRF:Hid (r=false):=qj (by rw [←hr];exact zhU (.inl (by omega)))
  clear ha hb hc hr
  go_wp2_with fail
  go_ret
  exact ⟨fin _ _ HRF.out.symm,by first | exact HE.out.drew | exact HE.out.drew.drew | exact HE.out.drew.drew.drew⟩
 have q0:=q
 clear q
 go_wp2_with fail
 rw [rounds_succ]
 go_wp2_with fail
 go_region_held3 (fun w'=>w'.cell? (aD (w1.heap.size+1) 2)=some (.string old)∧w'.cell? (aD w1.heap.size 1)=some (.int .i64 b))
  (first | with_reducible exact ⟨f2,m1⟩ | go_keep)
  (first
   | (go_at_call 175;((with_reducible refine (zmO _ _).mono ?_);rintro r w' ⟨rfl,rfl⟩)))
 by_cases q:b<(old.size:Int)
 ·have HRF:Hid (r=false):=qj (by rw [←hr];exact zhU (.inr (.inl (by omega))))
  clear ha hb hc hr
  go_wp2_with fail
  go_ret
  exact ⟨fin _ _ HRF.out.symm,by first | exact HE.out.drew | exact HE.out.drew.drew | exact HE.out.drew.drew.drew⟩
 have q1:=q
 clear q
 go_wp2_with fail
 rw [rounds_succ]
 go_wp2_with fail
 go_region_held3 (fun w'=>w'.cell? (aD (w1.heap.size+1) 3)=some (.string val)∧w'.cell? (aD w1.heap.size 2)=some (.int .i64 c))
  (first | with_reducible exact ⟨f3,m2⟩ | go_keep)
  (first
   | (go_at_call 176;((with_reducible refine (zmv _ _).mono ?_);rintro r w' ⟨rfl,rfl⟩)))
 by_cases q:c<(val.size:Int)
 ·have HRF:Hid (r=false):=qj (by rw [←hr];exact zhU (.inr (.inr (by omega))))
  clear ha hb hc hr
  go_wp2_with fail
  go_ret
  exact ⟨fin _ _ HRF.out.symm,by first | exact HE.out.drew | exact HE.out.drew.drew | exact HE.out.drew.drew.drew⟩
 have q2:=q
 clear q
 go_wp2_with fail
 rw [rounds_succ]
 go_wp2_with fail
 go_ret
 refine ⟨fin _ _ ?_,HE.out.drew.drew.drew⟩
 rw [←hr,zjR (by rw [ha,hb,hc];omega)]
 exact zjp key
theorem zgL (s:ByteArray):s.toList=[]↔s.size=0:=by
 rw [←List.isEmpty_iff,zeE,decide_eq_true_iff]
theorem zjP (cl sq:Int) (ok:Nat) (key old val:ByteArray) (w:World) :
 (binOp .eql 42 (.agg #[.int .u8 1,cl,sq,ok,key,old,val]) (.agg Zk.k)).run Tryz.prog w=.ok (.bool (enOk ⟨1,cl,sq,ok,key,old,val⟩)) w:=by
 obtain ⟨r,hr⟩:∃r,enOk ⟨1,cl,sq,ok,key,old,val⟩=r:=⟨_,rfl⟩
 rw [hr]
 have hf:Tryz.prog.stoodInHeld 42=false:=by kernel_rfl
 have hu:=Tryz.underlying42
 have hu2:=Tryz.underlying40
 rw [run_eql_struct,run_equalIn_agg _ _ _ _ _ (by rw [Program.fieldsOf,hu]) hf,Program.fieldsOf,hu]
 simp [Op.eqFields,go_sem]
 simp only [zgL]
 have hb:∀b:Bool,enOk ⟨1,cl,sq,ok,key,old,val⟩=b→Result.ok (α:=Value) (Value.bool b) w=Result.ok (Value.bool r) w:=fun b h=>by rw [←h,hr]
 by_cases h1:cl=0
 ·by_cases h2:sq=0
  ·by_cases h3:ok=0
   ·by_cases h4:key.size=0
    ·by_cases h5:old.size=0
     ·by_cases h6:val.size=0
      ·rw [if_pos h1,if_pos h2,if_pos h3,if_pos h4,if_pos h5,if_pos h6]
       exact hb _ (zcS.2 (.inl ⟨rfl,h1,h2,h3,h4,h5,h6⟩))
      ·rw [if_pos h1,if_pos h2,if_pos h3,if_pos h4,if_pos h5,if_neg h6]
       exact hb _ (zdE (by dsimp only;omega))
     ·rw [if_pos h1,if_pos h2,if_pos h3,if_pos h4,if_neg h5]
      exact hb _ (zdE (by dsimp only;omega))
    ·rw [if_pos h1,if_pos h2,if_pos h3,if_neg h4]
     exact hb _ (zdE (by dsimp only;omega))
   ·rw [if_pos h1,if_pos h2,if_neg h3]
    exact hb _ (zdE (by dsimp only;omega))
  ·rw [if_pos h1,if_neg h2]
   exact hb _ (zdE (by dsimp only;omega))
 ·rw [if_neg h1]
  exact hb _ (zdE (by dsimp only;omega))
theorem zkg (ok:Nat) (key old val:ByteArray) (w:World) :
 (binOp .eql 40 (.agg #[ok,key,old,val]) (.agg Zk.m)).run Tryz.prog w=.ok (.bool (decide (ok=0∧key.size=0∧old.size=0∧val.size=0))) w:=by
 obtain ⟨r,hr⟩:∃r,decide (ok=0∧key.size=0∧old.size=0∧val.size=0)=r:=⟨_,rfl⟩
 rw [hr]
 have hf:Tryz.prog.stoodInHeld 40=false:=by kernel_rfl
 have hu2:=Tryz.underlying40
 rw [run_eql_struct,run_equalIn_agg _ _ _ _ _ (by rw [Program.fieldsOf,hu2]) hf,Program.fieldsOf,hu2]
 simp [Op.eqFields,go_sem]
 simp only [zgL]
 have hb:∀b:Bool,decide (ok=0∧key.size=0∧old.size=0∧val.size=0)=b→Result.ok (α:=Value) (Value.bool b) w=Result.ok (Value.bool r) w:=fun b h=>by rw [←h,hr]
 by_cases h3:ok=0
 ·by_cases h4:key.size=0
  ·by_cases h5:old.size=0
   ·by_cases h6:val.size=0
    ·rw [if_pos h3,if_pos h4,if_pos h5,if_pos h6]
     exact hb _ (decide_eq_true ⟨h3,h4,h5,h6⟩)
    ·rw [if_pos h3,if_pos h4,if_pos h5,if_neg h6]
     exact hb _ (decide_eq_false (by omega))
   ·rw [if_pos h3,if_pos h4,if_neg h5]
    exact hb _ (decide_eq_false (by omega))
  ·rw [if_pos h3,if_neg h4]
   exact hb _ (decide_eq_false (by omega))
 ·rw [if_neg h3]
  exact hb _ (decide_eq_false (by omega))
theorem zgr (n:Nat):((n:Int) != 1)=!(n == 1):=by
 rw [Bool.eq_iff_iff]
 simp
 omega
theorem zkP (cl sq:Int) (ok:Nat) (key old val:ByteArray):enOk ⟨2,cl,sq,ok,key,old,val⟩=((decide (0≤cl) && decide (cl≤3)) && ((decide (1≤sq) && decide (sq≤1099511627776)) && (opOk ok key old val && !(ok == 1)))):=by
 rw [Bool.eq_iff_iff,zcS]
 simp [and_assoc]
theorem zdQ (k:Nat) (cl sq:Int) (ok:Nat) (key old val:ByteArray) (w:World) :
 (cL 117 #[.agg #[k,cl,sq,ok,key,old,val]] w (.bool (enOk ⟨k,cl,sq,ok,key,old,val⟩)):Prop):=by
 have HE:=qj ((Ext.refl w).alloc (.cells #[k,cl,sq,ok,key,old,val] 42))
 have HT:=qj (heap_alloc_new w (.cells #[k,cl,sq,ok,key,old,val] 42))
 have fin:∀x y:Bool,x=y→Ending.returned (Value.bool x)=.returned (.bool y):=fun x y h=>by rw [h]
 by_cases h1:k=1
 ·subst h1
  have hq:=zjP cl sq ok key old val
  have hg:Tryz.prog.eqGuardType Tryz.prog.depth 42=false:=by kernel_rfl
  go_enter Tryz.func117,Tryz.ntmps117
  go_wp2_with fail
  go_ret
  exact ⟨rfl,HE.out⟩
 have e1:((k:Int) == 1)=false:=by rw [beq_eq_false_iff_ne];omega
 by_cases h2:k=2
 ·subst h2
  have HC:=qj (zkP cl sq ok key old val)
  obtain ⟨q,hq⟩:∃q,enOk ⟨2,cl,sq,ok,key,old,val⟩=q:=⟨_,rfl⟩
  rw [hq] at HC ⊢
  clear hq e1 h1
  cases b1:(decide (0≤cl) && decide (cl≤3)) <;> cases b2:(decide (1≤sq) && decide (sq≤1099511627776)) <;> cases b3:opOk ok key old val
  all_goals
   rw [b1,b2,b3] at HC
   have B1:=qj b1
   have B2:=qj b2
   have B3:=qj b3
   clear b1 b2 b3
   go_enter Tryz.func117,Tryz.ntmps117
   go_wp2_with fail
   refine (zdb _ _ _ _).mono ?_
   rw [B1.out]
   rintro e w1 ⟨rfl,rfl⟩
   go_wp2_with (refine (zdb _ _ _ _).mono ?_;rw [B2.out];rintro e w1 ⟨rfl,rfl⟩)
   first
    | (go_ret;exact ⟨fin _ _ HC.out.symm,HE.out⟩)
    | (refine (zps _ _ _ _ _).mono ?_
       rw [B3.out]
       rintro e w2 ⟨rfl,hx⟩
       have hc:=cell_of_row w2 w.heap.size 3 _ _ _ (zab HT.out hx)
       have HE:=qj (HE.out.trans hx)
       clear hx
       go_wp2_with fail
       go_ret
       refine ⟨fin _ _ ?_,HE.out⟩
       rw [HC.out]
       first
        | rfl
        | (simp only [Bool.true_and];exact zgr _))
 ·have e2:((k:Int) == 2)=false:=by rw [beq_eq_false_iff_ne];omega
  have HB:Hid (enOk ⟨k,cl,sq,ok,key,old,val⟩=false):=qj (zdE (by dsimp only;omega))
  clear h1 h2
  go_enter Tryz.func117,Tryz.ntmps117
  go_wp2_with fail
  go_ret
  exact ⟨fin _ _ HB.out.symm,HE.out⟩
theorem zkb (s:ByteArray) (w:World) (hs:s.size≤255) :
 Calls Tryz.prog 150 #[s] w fun e w'=>∃A' c',e=.returned (.tuple #[.slice A' (s.size+1) c',.int .i64 0])∧By w' A' (s.size+1) c' (s.size :: bl s)∧Ext w w' :=
 (zog s w hs).mono fun _ _ ⟨A',c',h1,h2,h3⟩=>⟨A',c',h1,Bs.of_own h2 (by
  intro b hb
  simp only [List.mem_cons] at hb
  rcases hb with rfl | hb
  ·omega
  ·exact zqG s b hb),h3⟩
theorem zuO {A1 A2 A3 A4:Option Addr} {n1 n2 n3 n4 c1 c2 c3 c4:Nat} {l1 l2 l3 l4:List Nat} (w:World) (h1:By w A1 n1 c1 l1) (h2:By w A2 n2 c2 l2) (h3:By w A3 n3 c3 l3) (h4:By w A4 n4 c4 l4) (hN:n1+n2+n3+n4≤140737488355328) :
 Calls Tryz.prog 61 #[.slice (some ⟨w.heap.size,0,none⟩) 4 4] (w.alloc (.cells #[.slice A1 n1 c1,.slice A2 n2 c2,.slice A3 n3 c3,.slice A4 n4 c4] 45)) fun e w'=>∃A' c',e=.returned (.slice A' (n1+n2+n3+n4) c')∧By w' A' (n1+n2+n3+n4) c' (l1++l2++l3++l4)∧Ext w w':=by
 have hcat:cat [(.slice A1 n1 c1,l1),(.slice A2 n2 c2,l2),(.slice A3 n3 c3,l3),(.slice A4 n4 c4,l4)]=l1++l2++l3++l4:=by simp [cat]
 rw [←hcat]
 refine zgC _ 4 _ w _ rfl rfl ?_ (by rw [hcat,List.length_append,List.length_append,List.length_append,h1.len,h2.len,h3.len,h4.len]) ?_ (by omega) hN
 ·intro p hp
  simp only [List.mem_cons,List.not_mem_nil,or_false] at hp
  rcases hp with rfl | rfl | rfl | rfl
  ·exact ⟨_,_,_,rfl,h1⟩
  ·exact ⟨_,_,_,rfl,h2⟩
  ·exact ⟨_,_,_,rfl,h3⟩
  ·exact ⟨_,_,_,rfl,h4⟩
 ·rw [hcat]
  intro b hb
  simp only [List.mem_append] at hb
  rcases hb with ((h | h) | h) | h
  ·exact h1.rd.lt b h
  ·exact h2.rd.lt b h
  ·exact h3.rd.lt b h
  ·exact h4.rd.lt b h
theorem zfv (x N:Nat) (w:World) (hL:Laid w) (hf:fitsB x N=true) :
 Calls Tryz.prog 62 #[.int .i64 x,.int .i64 N] w fun e w'=>∃A' c',e=.returned (.slice A' x c')∧By w' A' x c' (digs x N)∧Ext w w':=by
 have HC:=qj (zfZ x N w hL hf)
 clear hL hf
 go_enter Tryz.func62,Tryz.ntmps62
 go_wp2_with fail
 refine HC.out.mono ?_
 rintro e w1 ⟨A1,c1,rfl,hb,hx⟩
 have HB:=qj hb
 have HX:=qj hx
 clear hb hx
 go_wp2_with fail
 go_ret
 exact ⟨A1,c1,rfl,HB.out,HX.out⟩
theorem zjq {w:World} {g:Nat} {x0 x1 x2 x3:Value} {t:TypeId} (h:w.heap[g]?=some (.cells #[x0,x1,x2,x3] t (0,0))):w.cell? (aD g 0)=some x0∧w.cell? (aD g 1)=some x1∧True:=⟨cell_of_row w g 0 _ _ _ h,cell_of_row w g 1 _ _ _ h,trivial⟩
theorem zka {w:World} {g:Nat} {x0 x1 x2 x3:Value} {t:TypeId} (h:w.heap[g]?=some (.cells #[x0,x1,x2,x3] t (0,0))):w.cell? (aD g 0)=some x0∧w.cell? (aD g 2)=some x2∧True:=⟨cell_of_row w g 0 _ _ _ h,cell_of_row w g 2 _ _ _ h,trivial⟩
theorem zjD {w:World} {g:Nat} {x0 x1 x2 x3:Value} {t:TypeId} (h:w.heap[g]?=some (.cells #[x0,x1,x2,x3] t (0,0))):w.cell? (aD g 0)=some x0∧w.cell? (aD g 3)=some x3∧True:=⟨cell_of_row w g 0 _ _ _ h,cell_of_row w g 3 _ _ _ h,trivial⟩
theorem zpG (k:Nat) (key old val:ByteArray) (w:World) (hL:Laid w) (hk:k<256) (h1:key.size≤255) (h2:old.size≤255) (h3:val.size≤255) :
 Calls Tryz.prog 118 #[.agg #[k,key,old,val]] w fun e w'=>∃A' c',e=.returned (.slice A' (1+(key.size+1)+(old.size+1)+(val.size+1)) c')∧By w' A' (1+(key.size+1)+(old.size+1)+(val.size+1)) c' ([k]++tx key++tx old++tx val)∧Ext w w':=by
 have hx:=(Ext.refl w).alloc (.cells #[k,key,old,val] 40)
 have HT:=qj (heap_alloc_new w (.cells #[k,key,old,val] 40))
 have HE:=qj hx
 have HL:=qj (hL.ext hx)
 have HF:Hid (fitsB 1 k=true):=qj (zbs.2 ⟨rfl,by omega,by simpa using hk⟩)
 have HD:Hid (digs 1 k=[k]):=qj (by simp [digs];omega)
 have HS:=qj (And.intro h1 (And.intro h2 h3))
 have t0:=zfW
 have t1:=zgf
 have t2:=zgn
 clear hx hL h1 h2 h3
 go_enter Tryz.func118,Tryz.ntmps118
 go_wp2_with fail
 refine (zfv 1 k _ HL.out HF.out).mono ?_
 rw [HD.out]
 rintro e w1 ⟨A1,c1,rfl,hb,hx⟩
 have hT:=zab HT.out hx
 have HE:=qj (HE.out.trans hx)
 have HL:=qj (HL.out.ext hx)
 have HB:=qj hb
 obtain ⟨i0,i1,i2,i3⟩:=zbz hT
 clear hx hb hT
 go_wp2_with fail
 have hx2:=(Ext.refl w1).alloc (.cells #[k,key,old,val] 207)
 have hF:=heap_alloc_new w1 (.cells #[k,key,old,val] 207)
 generalize hg:w1.heap.size=g at *
 refine (zfJ _).mono ?_
 rintro e w2 ⟨rfl,hx⟩
 have HF4:=qj (zab hF hx)
 have HE:=qj (HE.out.trans (hx2.trans hx))
 have HL:=qj (HL.out.ext (hx2.trans hx))
 have HB:=qj (HB.out.ext (hx2.trans hx))
 clear i0 i1 i2 i3 hx hx2 hF
 go_wp2_with fail
 refine wp_loop_rounds 4 ?_
 rw [rounds_succ]
 go_wp2_with fail
 refine (zmQ _ _).mono ?_
 rintro e v10 ⟨rfl,rfl⟩
 obtain ⟨_,i1,_⟩:=zjq HF4.out
 go_wp2_with fail
 refine (zkb key _ HS.out.1).mono ?_
 rintro e v11 ⟨A11,c11,rfl,hb,hx⟩
 have HB2:Hid (By _ A11 _ c11 (tx key)):=qj hb
 have HB:=qj (HB.out.ext hx)
 have HE:=qj (HE.out.trans hx)
 have HF4:=qj (zab HF4.out hx)
 clear hb hx i1
 go_wp2_with fail
 refine (zdu _ HB.out HB2.out (by have:=HS.out;omega)).mono ?_
 rintro e v12 ⟨A12,c12,rfl,hb,hx⟩
 have HB:=qj hb
 have HE:=qj (HE.out.trans hx)
 have HF4:=qj (zab HF4.out hx)
 clear hb hx HB2
 go_wp2_with fail
 rw [rounds_succ]
 go_wp2_with fail
 refine (zmO _ _).mono ?_
 rintro e v20 ⟨rfl,rfl⟩
 obtain ⟨_,i2,_⟩:=zka HF4.out
 go_wp2_with fail
 refine (zkb old _ HS.out.2.1).mono ?_
 rintro e v21 ⟨A21,c21,rfl,hb,hx⟩
 have HB2:Hid (By _ A21 _ c21 (tx old)):=qj hb
 have HB:=qj (HB.out.ext hx)
 have HE:=qj (HE.out.trans hx)
 have HF4:=qj (zab HF4.out hx)
 clear hb hx i2
 go_wp2_with fail
 refine (zdu _ HB.out HB2.out (by have:=HS.out;omega)).mono ?_
 rintro e v22 ⟨A22,c22,rfl,hb,hx⟩
 have HB:=qj hb
 have HE:=qj (HE.out.trans hx)
 have HF4:=qj (zab HF4.out hx)
 clear hb hx HB2
 go_wp2_with fail
 rw [rounds_succ]
 go_wp2_with fail
 refine (zmv _ _).mono ?_
 rintro e v30 ⟨rfl,rfl⟩
 obtain ⟨_,i3,_⟩:=zjD HF4.out
 go_wp2_with fail
 refine (zkb val _ HS.out.2.2).mono ?_
 rintro e v31 ⟨A31,c31,rfl,hb,hx⟩
 have HB2:Hid (By _ A31 _ c31 (tx val)):=qj hb
 have HB:=qj (HB.out.ext hx)
 have HE:=qj (HE.out.trans hx)
 have HF4:=qj (zab HF4.out hx)
 clear hb hx i3
 go_wp2_with fail
 refine (zdu _ HB.out HB2.out (by have:=HS.out;omega)).mono ?_
 rintro e v32 ⟨A32,c32,rfl,hb,hx⟩
 have HB:=qj hb
 have HE:=qj (HE.out.trans hx)
 have HF4:=qj (zab HF4.out hx)
 clear hb hx HB2
 go_wp2_with fail
 rw [rounds_succ]
 go_wp2_with fail
 go_ret
 exact ⟨_,_,rfl,HB.out,HE.out⟩

structure RdS (w:World) (g:Nat) (A:Option Addr) (n c:Nat) (l:List Nat) (a:Nat) (sh:Bool):Prop where
 row:w.heap[g]?=some (.cells #[.slice A n c,.int .i64 (a:Int),.bool sh] 217 (0,0))
 by_:By w A n c l
 off:0<n→∀p,A=some p→p.block≠g
 le:a≤l.length
 most:n≤9000000000000000000
 laid:Laid w
section
variable {w w':World} {g n c a:Nat} {A:Option Addr} {l:List Nat} {sh:Bool}
theorem RdS.lt (h:RdS w g A n c l a sh):g<w.heap.size:=(Array.getElem?_eq_some_iff.1 h.row).1
theorem zfH {G:Nat→Prop} (h:By w A n c l) (k:Mod G w w') (ho:0<n→∀p,A=some p→¬G p.block):By w' A n c l:=by
 by_cases h0:0<n
 ·exact By.mod h k fun p hp=>ho h0 p hp
 ·refine ⟨h.len,h.cap,h.most,⟨h.rd.1,fun hn=>?_⟩,Bs.nil_ h⟩
  have:=h.len
  omega
theorem zkZ {G:Nat→Prop} (h:Laid w) (k:Mod G w w') (hg:¬G 3):Laid w':=by
 have hlt:3<w.heap.size:=World.block_lt_of_cell? w _ h.1
 have hb:=k.block _ hlt hg
 unfold Laid at h ⊢
 obtain ⟨h0,h1,h2,h3,h4,h5,h6⟩:=h
 exact ⟨(World.cell?_of_block (a:=⟨_,_,none⟩) hb).trans h0,(World.cell?_of_block (a:=⟨_,_,none⟩) hb).trans h1,(World.cell?_of_block (a:=⟨_,_,none⟩) hb).trans h2,(World.cell?_of_block (a:=⟨_,_,none⟩) hb).trans h3,(World.cell?_of_block (a:=⟨_,_,none⟩) hb).trans h4,(World.cell?_of_block (a:=⟨_,_,none⟩) hb).trans h5,(World.cell?_of_block (a:=⟨_,_,none⟩) hb).trans h6⟩
theorem RdS.glob (h:RdS w g A n c l a sh):3≠g:=by
 intro e
 have h1:=h.laid.1
 have h2:=cell_of_row w g 0 _ _ _ h.row
 rw [←e] at h2
 have h3:=h1.symm.trans h2
 simp at h3
theorem RdS.step {a':Nat} {sh':Bool} (h:RdS w g A n c l a sh) (k:Mod (fun i=>i=g) w w') (hr:w'.heap[g]?=some (.cells #[.slice A n c,.int .i64 a',.bool sh'] 217 (0,0))) (hle:a'≤l.length):RdS w' g A n c l a' sh' :=
 ⟨hr,zfH h.by_ k h.off,h.off,hle,h.most,zkZ h.laid k h.glob⟩
theorem RdS.ext (h:RdS w g A n c l a sh) (k:Ext w w'):RdS w' g A n c l a sh :=
 ⟨(k.block g h.lt).trans h.row,h.by_.ext k,h.off,h.le,h.most,h.laid.ext k⟩
end
theorem zdj {w:World} {g:Nat} {x0 x1 x2:Value} {t:TypeId} (h:w.heap[g]?=some (.cells #[x0,x1,x2] t (0,0))) :
 ((CW.mk w g [x0,x1,x2]:Prop))∧(w.frozen? (aD g 1)=false∧w.frozen? (aD g 2)=false) :=
 ⟨⟨cell_of_row w g 0 _ _ _ h,cell_of_row w g 1 _ _ _ h,cell_of_row w g 2 _ _ _ h⟩,⟨frozen_of_row w g 1 _ _ h,frozen_of_row w g 2 _ _ h⟩⟩
theorem zch {w:World} {g i:Nat} {cs:Array Value} {t:TypeId} (h:w.heap[g]?=some (.cells cs t (0,0))) (v:Value):(w.setCell (aD g i) v).heap[g]?=some (.cells (cs.setIfInBounds i v) t (0,0)):=by
 rw [setCell_eq_setRow w g i _ _ _ v h]
 exact setRow_heap w g _ (cs.setIfInBounds i v) _ _ h
theorem zaJ {w:World} (g i:Nat) (v:Value):Mod (fun k=>k=g) w (w.setCell (aD g i) v):=Mod.setCell (F:=fun k=>k=g) (Mod.refl (fun k=>k=g) w) (p:=⟨g,i,none⟩) (.inl rfl) v
theorem zfk {g:Nat} {w w2:World} (hm:Mod (fun i=>i=g) w.drew w2):Mod (fun i=>i=g) w w2 :=
 Mod.trans (F:=fun i=>i=g) (Mod.drew (F:=fun i=>i=g) (Mod.refl (fun i=>i=g) w)) hm fun _ hi=>.inl hi
theorem zkx {w:World} {g n c a:Nat} {A:Option Addr} {l:List Nat} {sh:Bool} (h:RdS w g A n c l a sh) (b:Nat) (hb:b≤l.length) :
 Calls Tryz.prog 180 #[aD g 0,.int .i64 b,.int .i64 0] w fun e w'=>e=.returned (.tuple #[])∧RdS w' g A n c l b sh∧Mod (fun i=>i=g) w w':=by
 obtain ⟨⟨c0,c1,c2⟩,f1,f2⟩:=zdj h.row
 have HR:=qj (h.step (zaJ g 1 (.int .i64 (b:Int))) (zch h.row _) hb)
 have HM:=qj (zaJ (w:=w) g 1 (.int .i64 (b:Int)))
 clear h hb
 go_enter Tryz.func180,Tryz.ntmps180
 go_wp2_with fail
 go_end0
 exact ⟨rfl,HR.out,HM.out⟩
theorem znh {w:World} {g n c a:Nat} {A:Option Addr} {l:List Nat} {sh:Bool} (h:RdS w g A n c l a sh) (b:Int) :
 Calls Tryz.prog 180 #[aD g 0,.int .i64 b,.int .i64 10] w fun e w'=>e=.returned (.tuple #[])∧RdS w' g A n c l a true∧Mod (fun i=>i=g) w w':=by
 obtain ⟨⟨c0,c1,c2⟩,f1,f2⟩:=zdj h.row
 have HR:=qj (h.step (zaJ g 2 (.bool true)) (zch h.row _) h.le)
 have HM:=qj (zaJ (w:=w) g 2 (.bool true))
 clear h
 go_enter Tryz.func180,Tryz.ntmps180
 go_wp2_with fail
 refine bodyPost_ret (results_none rfl _ _ _) rfl ⟨rfl,HR.out,HM.out⟩
theorem zdl {w:World} {g n c a:Nat} {A:Option Addr} {l:List Nat} {sh:Bool} (h:RdS w g A n c l a sh) (d:Nat) (hd:wOk d=true) :
 Calls Tryz.prog 154 #[aD g 0,.int .i64 d] w fun e w'=>e=.returned (.int .i64 ((nmS l a d).1:Int))∧RdS w' g A n c l (nmS l a d).2.1 (sh || (nmS l a d).2.2)∧Mod (fun i=>i=g) w w':=by
 have hg:=znp hd h.le
 have HR:=qj h
 have hle:=zuK (w:=d) h.le
 obtain ⟨⟨c0,c1,_⟩,_⟩:=zdj h.row
 clear h
 cases hb:(nmS l a d).2.2 with
 | true =>
  rw [if_pos hb] at hg
  have HN:=qj (zsM hb)
  have HG:=qj hg
  clear hg hb hle
  go_enter Tryz.func154,Tryz.ntmps154
  go_wp2_with fail
  have HR:=qj (HR.out.ext (Ext.refl w).drew)
  have hc:=zbx A l n c _ a d _ HR.out.laid HR.out.by_.len HR.out.by_.rd HR.out.most
  rw [HG.out] at hc
  have HC:=qj hc
  clear hc
  go_region_held3 (fun w'=>w'.cell? (aD g 0)=some (.slice A n c)∧w'.cell? (aD g 1)=some (.int .i64 (a:Int)))
   (first | with_reducible exact ⟨c0,c1⟩ | go_keep)
   (first
    | (go_at_call 156;((with_reducible refine HC.out.mono ?_);rintro r w' ⟨rfl,rfl⟩)))
  go_wp2_with fail
  refine (znh HR.out _).mono ?_
  rintro r w2 ⟨rfl,hr,hm⟩
  have HR:=qj hr
  have HM:=qj (zfk hm)
  clear hr hm c0 c1
  go_wp2_with fail
  go_ret
  rw [HN.out]
  exact ⟨rfl,by rw [Bool.or_true];exact HR.out,HM.out⟩
 | false =>
  rw [if_neg (by rw [hb];simp)] at hg
  have HG:=qj hg
  have HL:=qj hle
  rw [Bool.or_false]
  clear hg hb hle
  generalize (nmS l a d).1=x at *
  generalize (nmS l a d).2.1=y at *
  go_enter Tryz.func154,Tryz.ntmps154
  go_wp2_with fail
  have HR:=qj (HR.out.ext (Ext.refl w).drew)
  have hc:=zbx A l n c _ a d _ HR.out.laid HR.out.by_.len HR.out.by_.rd HR.out.most
  rw [HG.out] at hc
  have HC:=qj hc
  clear hc
  go_region_held3 (fun w'=>w'.cell? (aD g 0)=some (.slice A n c)∧w'.cell? (aD g 1)=some (.int .i64 (a:Int)))
   (first | with_reducible exact ⟨c0,c1⟩ | go_keep)
   (first
    | (go_at_call 156;((with_reducible refine HC.out.mono ?_);rintro r w' ⟨rfl,rfl⟩)))
  go_wp2_with fail
  refine (zkx HR.out y HL.out).mono ?_
  rintro r w2 ⟨rfl,hr,hm⟩
  have HR:=qj hr
  have HM:=qj (zfk hm)
  clear hr hm c0 c1
  go_wp2_with fail
  go_ret
  exact ⟨rfl,HR.out,HM.out⟩
theorem znt {w:World} {g n c a:Nat} {A:Option Addr} {l:List Nat} {sh:Bool} (h:RdS w g A n c l a sh) :
 Calls Tryz.prog 181 #[aD g 0] w fun e w'=>e=.returned (.int .u8 ((nmS l a 1).1:Int))∧RdS w' g A n c l (nmS l a 1).2.1 (sh || (nmS l a 1).2.2)∧Mod (fun i=>i=g) w w':=by
 have HC:=qj (zdl h 1 rfl)
 have hlt:=zro h.by_.rd.lt a 1
 clear h
 generalize nmS l a 1=q at *
 obtain ⟨x,y,z⟩:=q
 dsimp only at *
 go_enter Tryz.func181,Tryz.ntmps181
 go_wp2_with fail
 refine HC.out.mono ?_
 rintro r w2 ⟨rfl,hr,hm⟩
 have HR:=qj hr
 have HM:=qj hm
 clear hr hm
 go_wp2_with fail
 go_ret
 exact ⟨rfl,HR.out,HM.out⟩
theorem zjs {w:World} {g n c a:Nat} {A:Option Addr} {l:List Nat} {sh:Bool} (h:RdS w g A n c l a sh) :
 Calls Tryz.prog 197 #[aD g 0] w fun e w'=>e=.returned (.string (txS l a).1)∧RdS w' g A n c l (txS l a).2.1 (sh || (txS l a).2.2)∧Mod (fun i=>i=g) w w':=by
 obtain ⟨hs,hg⟩:=zry h.le
 have HS:=qj hs
 have HR:=qj h
 have hle:=zuB h.le
 obtain ⟨⟨c0,c1,_⟩,_⟩:=zdj h.row
 have hy:=zfy (l:=l) (a:=a)
 clear h hs
 obtain ⟨rd,hrd⟩:∃rd,zaN l (a:Int)=rd:=⟨_,rfl⟩
 rw [hrd] at HS hg
 obtain ⟨rs,rn,re⟩:=rd
 have HD:=qj hrd
 clear hrd
 generalize txS l a=q at *
 obtain ⟨x,y,z⟩:=q
 dsimp only at *
 rcases hg with ⟨rfl,rfl,rfl⟩ | ⟨rfl,rfl,rfl⟩
 ·obtain ⟨rfl,hya⟩:x=ByteArray.empty∧y=a:=by
   have:=(hy rfl).1
   injection this with e1 e2
   injection e2 with e2 _
   exact ⟨e1,e2⟩
  obtain rfl:=hya.symm
  clear hy hle
  go_enter Tryz.func197,Tryz.ntmps197
  go_wp2_with fail
  have HR:=qj (HR.out.ext (Ext.refl w).drew)
  have hc:=ziS A l n c _ a _ HR.out.laid HR.out.by_.len HR.out.by_.cap HR.out.by_.rd HR.out.most
  rw [HD.out] at hc
  dsimp only at hc
  rw [HS.out] at hc
  have HC:=qj hc
  clear hc
  go_region_held3 (fun w'=>w'.cell? (aD g 0)=some (.slice A n c)∧w'.cell? (aD g 1)=some (.int .i64 (a:Int)))
   (first | with_reducible exact ⟨c0,c1⟩ | go_keep)
   (first
    | (go_at_call 201;((with_reducible refine HC.out.mono ?_);rintro r w' ⟨rfl,rfl⟩)))
  go_wp2_with fail
  refine (znh HR.out _).mono ?_
  rintro r w2 ⟨rfl,hr,hm⟩
  have HR:=qj hr
  have HM:=qj (zfk hm)
  clear hr hm c0 c1
  go_wp2_with fail
  go_ret
  exact ⟨rfl,by rw [Bool.or_true];exact HR.out,HM.out⟩
 ·have HL:=qj hle
  clear hy hle
  go_enter Tryz.func197,Tryz.ntmps197
  go_wp2_with fail
  have HR:=qj (HR.out.ext (Ext.refl w).drew)
  have hc:=ziS A l n c _ a _ HR.out.laid HR.out.by_.len HR.out.by_.cap HR.out.by_.rd HR.out.most
  rw [HD.out] at hc
  dsimp only at hc
  rw [HS.out] at hc
  have HC:=qj hc
  clear hc
  go_region_held3 (fun w'=>w'.cell? (aD g 0)=some (.slice A n c)∧w'.cell? (aD g 1)=some (.int .i64 (a:Int)))
   (first | with_reducible exact ⟨c0,c1⟩ | go_keep)
   (first
    | (go_at_call 201;((with_reducible refine HC.out.mono ?_);rintro r w' ⟨rfl,rfl⟩)))
  go_wp2_with fail
  refine (zkx HR.out _ HL.out).mono ?_
  rintro r w2 ⟨rfl,hr,hm⟩
  have HR:=qj hr
  have HM:=qj (zfk hm)
  clear hr hm c0 c1
  go_wp2_with fail
  go_ret
  exact ⟨rfl,by rw [Bool.or_false];exact HR.out,HM.out⟩
structure RdB (B g:Nat) (A:Option Addr) (n:Nat):Prop where
 g:g<B
 a:0<n→∀p,A=some p→p.block<B
 o:3<B
theorem RdS.base {w:World} {g n c a:Nat} {A:Option Addr} {l:List Nat} {sh:Bool} (h:RdS w g A n c l a sh):RdB w.heap.size g A n :=
 ⟨h.lt,fun hn p hp=>by
  obtain ⟨g',o,e,hg,_⟩:=h.by_.rd.2 (by rw [h.by_.len];exact hn)
  rw [hp] at e
  injection e with e
  rw [e]
  exact hg,World.block_lt_of_cell? w _ h.laid.1⟩
theorem RdS.other {w w':World} {g n c a B:Nat} {A:Option Addr} {l:List Nat} {sh:Bool} {G:Nat→Prop} (h:RdS w g A n c l a sh) (hb:RdB B g A n) (k:Mod G w w') (hG:∀i,G i→B≤i):RdS w' g A n c l a sh :=
 ⟨zah h.row k fun hg=>absurd (hG _ hg) (Nat.not_le.2 hb.g),zfH h.by_ k fun hn p hp hg=>absurd (hG _ hg) (Nat.not_le.2 (hb.a hn p hp)),h.off,h.le,h.most,zkZ h.laid k fun hg=>absurd (hG _ hg) (Nat.not_le.2 hb.o)⟩
theorem zeu {w:World} {g:Nat} {x0 x1 x2 x3:Value} {t:TypeId} (h:w.heap[g]?=some (.cells #[x0,x1,x2,x3] t (0,0))) :
 ((CW.mk w g [x0,x1,x2,x3]:Prop)) ∧
 (w.frozen? (aD g 0)=false∧w.frozen? (aD g 1)=false∧w.frozen? (aD g 2)=false∧w.frozen? (aD g 3)=false) :=
 ⟨zbz h,frozen_of_row w g 0 _ _ h,frozen_of_row w g 1 _ _ h,frozen_of_row w g 2 _ _ h,frozen_of_row w g 3 _ _ h⟩
structure OpS (w:World) (g:Nat) (A:Option Addr) (n c:Nat) (l:List Nat) (g2 g3:Nat) (x0 x1 x2 x3:Value) (a:Nat) (sh:Bool) (w':World):Prop where
 rd:RdS w' g A n c l a sh
 base:RdB w.heap.size g A n
 res:w'.heap[g2]?=some (.cells #[.int .u8 0,.string ⟨#[]⟩,.string ⟨#[]⟩,.string ⟨#[]⟩] 40 (0,0))
 own:w'.heap[g3]?=some (.cells #[x0,x1,x2,x3] 207 (0,0))
 ge:w.heap.size≤g2∧w.heap.size≤g3∧g2≠g3
 mod:Mod (fun i=>i=g) w w'
section
variable {w w' w2:World} {g n c a g2 g3:Nat} {A:Option Addr} {l:List Nat} {x0 x1 x2 x3:Value} {sh:Bool}
theorem OpS.ext (h:OpS w g A n c l g2 g3 x0 x1 x2 x3 a sh w') (k:Ext w' w2):OpS w g A n c l g2 g3 x0 x1 x2 x3 a sh w2 :=
 ⟨h.rd.ext k,h.base,zab h.res k,zab h.own k,h.ge,h.mod.ext k⟩
theorem OpS.step {a':Nat} {sh':Bool} (h:OpS w g A n c l g2 g3 x0 x1 x2 x3 a sh w') (k:Mod (fun i=>i=g) w' w2) (hr:RdS w2 g A n c l a' sh'):OpS w g A n c l g2 g3 x0 x1 x2 x3 a' sh' w2 :=
 ⟨hr,h.base,zah h.res k (by have:=h.base.g;have:=h.ge;omega),zah h.own k (by have:=h.base.g;have:=h.ge;omega),h.ge,Mod.trans (F:=fun i=>i=g) h.mod k fun _ hi=>.inl hi⟩
theorem OpS.put1 (h:OpS w g A n c l g2 g3 x0 x1 x2 x3 a sh w') (v:Value):OpS w g A n c l g2 g3 x0 v x2 x3 a sh (w'.setCell (aD g3 1) v) :=
 ⟨h.rd.other h.base (zaJ g3 1 v) fun i hi=>by subst hi;exact h.ge.2.1,h.base,zah h.res (zaJ g3 1 v) h.ge.2.2,zch h.own v,h.ge,Mod.setCell (F:=fun i=>i=g) h.mod (.inr h.ge.2.1) v⟩
theorem OpS.put2 (h:OpS w g A n c l g2 g3 x0 x1 x2 x3 a sh w') (v:Value):OpS w g A n c l g2 g3 x0 x1 v x3 a sh (w'.setCell (aD g3 2) v) :=
 ⟨h.rd.other h.base (zaJ g3 2 v) fun i hi=>by subst hi;exact h.ge.2.1,h.base,zah h.res (zaJ g3 2 v) h.ge.2.2,zch h.own v,h.ge,Mod.setCell (F:=fun i=>i=g) h.mod (.inr h.ge.2.1) v⟩
theorem OpS.put3 (h:OpS w g A n c l g2 g3 x0 x1 x2 x3 a sh w') (v:Value):OpS w g A n c l g2 g3 x0 x1 x2 v a sh (w'.setCell (aD g3 3) v) :=
 ⟨h.rd.other h.base (zaJ g3 3 v) fun i hi=>by subst hi;exact h.ge.2.1,h.base,zah h.res (zaJ g3 3 v) h.ge.2.2,zch h.own v,h.ge,Mod.setCell (F:=fun i=>i=g) h.mod (.inr h.ge.2.1) v⟩
end
theorem zjx {w:World} {g n c a:Nat} {A:Option Addr} {l:List Nat} {sh:Bool} (h:RdS w g A n c l a sh) :
 Calls Tryz.prog 182 #[aD g 0] w fun e w'=>e=.returned (.agg #[.int .u8 ((nmS l a 1).1:Int),.string (txS l (opA l a)).1,.string (txS l (opB l a)).1,.string (txS l (opC l a)).1])∧RdS w' g A n c l (opD l a) (sh || zeN l a)∧Mod (fun i=>i=g) w w':=by
 have HBB:=qj h.base
 have hx:=(Ext.refl w).alloc (.cells Zk.m 40)
 have HR:=qj (h.ext hx)
 have HQ:=qj (heap_alloc_new w (.cells Zk.m 40))
 have hlt:=zro h.by_.rd.lt a 1
 have t0:=zfW
 have t1:=zgf
 have t2:=zgn
 clear h
 go_enter Tryz.func182,Tryz.ntmps182
 go_wp2_with fail
 refine (znt HR.out).mono ?_
 rintro e w1 ⟨rfl,hr,hm⟩
 have HR:=qj hr
 have HM:=qj hm
 clear hr hm
 go_wp2_with fail
 have HS:Hid (OpS w g A n c l w.heap.size w1.heap.size (.int .u8 ((nmS l a 1).1:Int)) (.string ⟨#[]⟩) (.string ⟨#[]⟩) (.string ⟨#[]⟩) (opA l a) (sh || (nmS l a 1).2.2) (w1.alloc (.cells #[.int .u8 ((nmS l a 1).1:Int),.string ⟨#[]⟩,.string ⟨#[]⟩,.string ⟨#[]⟩] 207))):=qj (by
  have hx1:=(Ext.refl w1).alloc (.cells #[.int .u8 ((nmS l a 1).1:Int),.string ⟨#[]⟩,.string ⟨#[]⟩,.string ⟨#[]⟩] 207)
  have hgl:=HBB.out.g
  have hs1:=HM.out.size
  rw [World.size_alloc] at hs1
  refine ⟨HR.out.ext hx1,HBB.out,zab (zah HQ.out HM.out (by omega)) hx1,heap_alloc_new w1 _,⟨Nat.le_refl _,by omega,by omega⟩,?_⟩
  exact Mod.ext (F:=fun i=>i=g) (Mod.trans (F:=fun i=>i=g) (Mod.alloc (F:=fun i=>i=g) (Mod.refl (fun i=>i=g) w) _) HM.out fun _ hi=>.inl hi) hx1)
 obtain ⟨k0,hk0⟩:∃k0,(nmS l a 1).1=k0:=⟨_,rfl⟩
 rw [hk0] at HS
 rw [hk0]
 generalize hg3:w1.heap.size=g3 at *
 generalize hg2:w.heap.size=g2 at *
 have hs1:Hid (opA l a=opA l a):=qj rfl
 have HK:=qj hk0
 clear HR HM HQ HBB hlt hx hk0 hs1
 refine (zfJ _).mono ?_
 rintro e w2 ⟨rfl,hx⟩
 have HS:=qj (HS.out.ext hx)
 clear hx
 go_wp2_with fail
 refine wp_loop_rounds 4 ?_
 rw [rounds_succ]
 go_wp2_with fail
 refine (zmQ _ _).mono ?_
 rintro e v3 ⟨rfl,rfl⟩
 go_wp2_with fail
 refine (zjs HS.out.rd).mono ?_
 rintro e v4 ⟨rfl,hr,hm⟩
 have hs:=HS.out.step hm (show RdS _ g A n c l (opB l a) _ from hr)
 obtain ⟨⟨_,c1,c2,c3⟩,_,f1,f2,f3⟩:=zeu hs.own
 have HS:=qj (hs.put1 (.string (txS l (opA l a)).1))
 clear hs hr hm
 go_wp2_with fail
 rw [rounds_succ]
 go_wp2_with fail
 refine (zmO _ _).mono ?_
 rintro e v5 ⟨rfl,rfl⟩
 go_wp2_with fail
 refine (zjs HS.out.rd).mono ?_
 rintro e v6 ⟨rfl,hr,hm⟩
 have hs:=HS.out.step hm (show RdS _ g A n c l (opC l a) _ from hr)
 obtain ⟨⟨_,c1,c2,c3⟩,_,f1,f2,f3⟩:=zeu hs.own
 have HS:=qj (hs.put2 (.string (txS l (opB l a)).1))
 clear hs hr hm
 go_wp2_with fail
 rw [rounds_succ]
 go_wp2_with fail
 refine (zmv _ _).mono ?_
 rintro e v7 ⟨rfl,rfl⟩
 go_wp2_with fail
 refine (zjs HS.out.rd).mono ?_
 rintro e v8 ⟨rfl,hr,hm⟩
 have hs:=HS.out.step hm (show RdS _ g A n c l (opD l a) _ from hr)
 obtain ⟨⟨_,c1,c2,c3⟩,_,f1,f2,f3⟩:=zeu hs.own
 have HS:=qj (hs.put3 (.string (txS l (opC l a)).1))
 clear hs hr hm
 go_wp2_with fail
 generalize (v8.setCell (aD g3 3) (.string (txS l (opC l a)).1))=W at *
 obtain ⟨c0,c1,c2,c3⟩:=zbz HS.out.own
 obtain ⟨d0,d1,d2,d3⟩:=zbz HS.out.res
 obtain ⟨_,e0,e1,e2,e3⟩:=zeu HS.out.res
 rw [rounds_succ]
 go_wp2_with fail
 refine bodyPost_ret (v:=.agg #[k0,.string (txS l (opA l a)).1,.string (txS l (opB l a)).1,.string (txS l (opC l a)).1]) ?_ rfl ⟨by rw [HK.out],?_,?_⟩
 ·simp [results,Tryz.results182,go_sem,d0,d1,d2,d3]
 ·rw [show (sh || zeN l a)=(sh || (nmS l a 1).2.2 || (txS l (opA l a)).2.2 || (txS l (opB l a)).2.2 || (txS l (opC l a)).2.2) from by unfold zeN;simp only [Bool.or_assoc]]
  refine HS.out.rd.other (G:=fun i=>i=g2) HS.out.base ?_ (fun i hi=>by subst hi;exact HS.out.ge.1)
  exact ((((Mod.refl (fun i=>i=g2) W).setCell (p:=⟨g2,0,none⟩) (.inl rfl) _).setCell (p:=⟨g2,1,none⟩) (.inl rfl) _).setCell (p:=⟨g2,2,none⟩) (.inl rfl) _).setCell (p:=⟨g2,3,none⟩) (.inl rfl) _
 ·exact (((HS.out.mod.setCell (p:=⟨g2,0,none⟩) (.inr HS.out.ge.1) _).setCell (p:=⟨g2,1,none⟩) (.inr HS.out.ge.1) _).setCell (p:=⟨g2,2,none⟩) (.inr HS.out.ge.1) _).setCell (p:=⟨g2,3,none⟩) (.inr HS.out.ge.1) _
end Go.Proofs.YtdbpdhlecgoclaaGreatDoor
