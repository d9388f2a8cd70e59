/-
  The contracts of the disk's draw,Power,Start,New.
-/
import Derived.Test.YtdbpdhlecgoclaaGreatDoorP00
import Derived.Test.YtdbpdhlecgoclaaGreatDoorP01
import Derived.Deep.WholeRow
import Derived.StillTailTactics
import Derived.Laws.Tables
import Derived.ProofKit
import Derived.OpenShut
import Derived.Deep.Slices
import Derived.Deep.Fields
namespace Go.Proofs.YtdbpdhlecgoclaaGreatDoor
set_option maxRecDepth 100000
set_option maxHeartbeats 6400000
open Go Go.RowKit
def zfT (w:World) (d:Nat) (x0:Value) (st p:Int) (x3 x4:Value):Prop:=w.heap[d]?=some (.cells #[x0,.int .u8 st,.int .i64 p,x3,x4] 79 (0,0))
theorem PD.headAt {w:World} {d g:Nat} {pv:Value} {m:DM} (h:PD w d g pv m):zfT w d (aD d 0) (stOf m) m.power (.slice (some ⟨g,0,none⟩) m.size m.size) pv:=h.head
theorem PD.head_turned {w w':World} {d g:Nat} {pv:Value} {m:DM} (h:PD w d g pv m) (k:Mod (fun i=>i=d) w w') (st p:Int) (hh:zfT w' d (aD d 0) st p (.slice (some ⟨g,0,none⟩) m.size m.size) pv)
 (m':DM) (hok:m'.Ok) (h1:m'.rest=m.rest) (h2:m'.meant=m.meant) (h3:m'.lost=m.lost) (h4:m'.waits=m.waits) (hs:stOf m'=st) (hp:m'.power=p) (ht:p≤9223372036854775807):PD w' d g pv m':=by
 have hz:m'.size=m.size:=by unfold DM.size;rw [h1]
 refine ⟨hok,by rw [hz];exact h.n1,by rw [hp];exact ht,by rw [hs,hp,hz];exact hh,?_,?_,h.dg,h.pd⟩
 ·obtain ⟨cur,c1,c2,c3⟩:=h.med.mod k (fun e=>h.dg e.symm)
  exact ⟨cur,c1,by rw [hz];exact c2,fun s hs j v hv=>c3 s (by rw [←hz];exact hs) j v (by unfold DM.sec at hv ⊢;rw [h1,h2,h3] at hv;exact hv)⟩
 ·rw [h4]
  exact zas h.pen k fun i hi=>(h.pd i hi).1
theorem Mod.own_cell {d:Nat} {a b:World} (h:Mod (fun i=>i=d) a b) (k:Nat) (v:Value):Mod (fun i=>i=d) a (b.setCell (aD d k) v):=h.setCell (p:=⟨d,k,none⟩) (.inl rfl) v
def ziy (p:Int):Int:=if p=0 then 5 else 0
def ziY (p st:Int):Int:=if p=0 then 1 else st
theorem znc {w:World} {d:Nat} {x0 x3 x4:Value} {st p:Int} (h:zfT w d x0 st p x3 x4) (hp:-1≤p) (hp2:p≤9223372036854775807) :
 Calls Tryz.prog 98 #[aD d 0] w fun e w'=>e=.returned (.int .i64 (ziy p))∧zfT w' d x0 (ziY p st) (lessP p) x3 x4∧Mod (fun i=>i=d) w w':=by
 obtain ⟨⟨c0,c1,c2,c3,c4⟩,f0,f1,f2,f3,f4⟩:=zqw h
 have H:=qj h
 clear h
 by_cases h1:p=-1
 ·subst h1
  go_enter Tryz.func98,Tryz.ntmps98
  go_wp2_with fail
  go_ret
  exact ⟨rfl,H.out,Mod.refl _ _⟩
 ·by_cases h0:p=0
  ·subst h0
   go_enter Tryz.func98,Tryz.ntmps98
   go_wp2_with fail
   go_ret
   exact ⟨rfl,zae 1 H.out _ rfl,(Mod.refl _ _).own_cell _ _⟩
  ·have g1:(p == -1)=false:=by simpa using h1
   have g0:(p == 0)=false:=by simpa using h0
   have HL:Hid (lessP p=p-1):=qj (by unfold lessP;rw [if_pos (by omega)])
   have HI:Hid (ziy p=0∧ziY p st=st):=qj ⟨if_neg h0,if_neg h0⟩
   clear h0 h1
   go_enter Tryz.func98,Tryz.ntmps98
   go_wp2_with fail
   go_ret
   exact ⟨by rw [HI.out.1];rfl,by rw [HI.out.2,HL.out];exact zae 2 H.out _ rfl,(Mod.refl _ _).own_cell _ _⟩
theorem zpZ {w:World} {d g:Nat} {pv:Value} {m:DM} (h:PD w d g pv m) (n:Int) (hn:n≤9223372036854775807) :
 Calls Tryz.prog 92 #[aD d 0,.int .i64 n] w fun e w'=>e=.returned (.int .i64 (m.setPower n).1)∧PD w' d g pv (m.setPower n).2∧Mod (fun i=>i=d) w w':=by
 have hr:=zcR h none 0 0 [] (ZsAt.nil_ w)
 have HR:=qj hr
 have H:=qj h
 have HE:Hid (runE m []=if m.up=false then 5 else 0):=qj (by
  unfold runE zbp
  simp)
 have HP:Hid (m.setPower n=if m.up=false then (5,m) else if n<0 then (2,m) else (0,{ m with power:=n })):=qj rfl
 have HO:=qj (DM.setPower_ok h.ok n)
 obtain ⟨⟨c0,c1,c2,c3,c4⟩,f0,f1,f2,f3,f4⟩:=h.cells
 clear h hr
 by_cases hu:m.up=false
 ·have HE:Hid (runE m []=5):=qj (by rw [HE.out,if_pos hu])
  have HP:Hid (m.setPower n=(5,m)):=qj (by rw [HP.out,if_pos hu])
  clear hu
  go_enter Tryz.func92,Tryz.ntmps92
  go_wp2_with fail
  refine HR.out.mono ?_
  rw [HE.out]
  rintro e w1 ⟨rfl,rfl⟩
  go_wp2_with fail
  go_ret
  exact ⟨by rw [HP.out];rfl,by rw [HP.out];exact H.out,Mod.refl _ _⟩
 ·have HE:Hid (runE m []=0):=qj (by rw [HE.out,if_neg hu])
  by_cases hn0:n<0
  ·have HP:Hid (m.setPower n=(2,m)):=qj (by rw [HP.out,if_neg hu,if_pos hn0])
   clear hu
   go_enter Tryz.func92,Tryz.ntmps92
   go_wp2_with fail
   refine HR.out.mono ?_
   rw [HE.out]
   rintro e w1 ⟨rfl,rfl⟩
   go_wp2_with fail
   go_ret
   exact ⟨by rw [HP.out];rfl,by rw [HP.out];exact H.out,Mod.refl _ _⟩
  ·have HP:Hid (m.setPower n=(0,{ m with power:=n })):=qj (by rw [HP.out,if_neg hu,if_neg hn0])
   clear hu
   go_enter Tryz.func92,Tryz.ntmps92
   go_wp2_with fail
   refine HR.out.mono ?_
   rw [HE.out]
   rintro e w1 ⟨rfl,rfl⟩
   go_wp2_with fail
   go_ret
   have hm:Mod (fun i=>i=d) w (w.setCell (aD d 2) (.int .i64 n)):=(Mod.refl _ _).own_cell _ _
   refine ⟨by rw [HP.out];rfl,?_,hm⟩
   exact H.out.head_turned hm (stOf m) n (zae 2 H.out.head _ rfl) _ HO.out (by rw [HP.out]) (by rw [HP.out]) (by rw [HP.out]) (by rw [HP.out]) (by rw [HP.out];rfl) (by rw [HP.out]) hn
theorem zpJ {w:World} {d g:Nat} {pv:Value} {m:DM} (h:PD w d g pv m) :
 Calls Tryz.prog 88 #[aD d 0] w fun e w'=>e=.returned m.start.1∧PD w' d g pv m.start.2∧Mod (fun i=>i=d) w w':=by
 have H:=qj h
 have HP:Hid (m.start=if m.down=false then (2,m) else (0,{ m with down:=false,dead:=false,power:=-1 })):=qj rfl
 have HO:=qj (DM.start_ok h.ok)
 have hst:=zge (m:=m)
 obtain ⟨⟨c0,c1,c2,c3,c4⟩,f0,f1,f2,f3,f4⟩:=h.cells
 clear h
 by_cases hd:m.down=true
 ·rw [hst.2 hd] at c1
  have HP:Hid (m.start=(0,{ m with down:=false,dead:=false,power:=-1 })):=qj (by rw [HP.out,if_neg (by rw [hd];simp)])
  clear hd hst
  go_enter Tryz.func88,Tryz.ntmps88
  go_wp2_with fail
  refine (zbS d _ c0).mono ?_
  rintro e w1 ⟨rfl,rfl⟩
  go_wp2_with fail
  go_ret
  have hm:Mod (fun i=>i=d) w ((w.setCell (aD d 1) (.int .u8 0)).setCell (aD d 2) (.int .i64 (-1))):=((Mod.refl _ _).own_cell _ _).own_cell _ _
  refine ⟨by rw [HP.out];rfl,?_,hm⟩
  exact H.out.head_turned hm 0 (-1) (zae 2 (zae 1 H.out.head _ rfl) _ rfl) _ HO.out (by rw [HP.out]) (by rw [HP.out]) (by rw [HP.out]) (by rw [HP.out]) (by rw [HP.out];rfl) (by rw [HP.out]) (by omega)
 ·have hs:(stOf m == 2)=false:=by
   have:¬stOf m=2:=fun e=>hd (hst.1 e)
   simpa using this
  have hs2:(stOf m != 2)=true:=by
   have:¬stOf m=2:=fun e=>hd (hst.1 e)
   simpa using this
  have HP:Hid (m.start=(2,m)):=qj (by rw [HP.out,if_pos (by simpa using hd)])
  clear hd hst
  generalize stOf m=st at *
  go_enter Tryz.func88,Tryz.ntmps88
  go_wp2_with fail
  refine (zbS d _ c0).mono ?_
  rintro e w1 ⟨rfl,rfl⟩
  go_wp2_with fail
  go_ret
  exact ⟨by rw [HP.out];rfl,by rw [HP.out];exact H.out,Mod.refl _ _⟩
def zCon:Array Value:=(vb z64).toArray
def zWri:Array Value:=(wriC (0,z64)).toArray
def zMed:Array Value:=(secC z64 z64 false).toArray
theorem zkR:(Tryz.prog.info? 156).map (fun i=>(i.zero,i.size))=some (some (.agg zCon),64):=by kernel_rfl
theorem zlp:(Tryz.prog.info? 158).map (fun i=>(i.zero,i.size))=some (some (.agg zWri),65):=by kernel_rfl
theorem zkq:(Tryz.prog.info? 201).map (fun i=>(i.zero,i.size))=some (some (.agg zMed),129):=by kernel_rfl
theorem zut (w:World):(zeroValue 156).run Tryz.prog w=.ok (.agg zCon) w:=(zero_of_info zkR).1 w
theorem zjC (w:World):(zeroValue 158).run Tryz.prog w=.ok (.agg zWri) w:=(zero_of_info zlp).1 w
theorem zrE (w:World):(zeroValue 201).run Tryz.prog w=.ok (.agg zMed) w:=(zero_of_info zkq).1 w
theorem zeX:(Tryz.prog.info? 156).map (·.size)=some 64:=(zero_of_info zkR).2
theorem zlU:(Tryz.prog.info? 158).map (·.size)=some 65:=(zero_of_info zlp).2
theorem zqv:(Tryz.prog.info? 201).map (·.size)=some 129:=(zero_of_info zkq).2
theorem zuE:Tryz.prog.underlying 156=some (.array 64 5):=Tryz.underlying156
theorem zsO:∃d,Tryz.prog.underlying 156=some d∧d.isRow=true:=⟨_,Tryz.underlying156,rfl⟩
theorem zsj:∃d,Tryz.prog.underlying 158=some d∧d.isRow=true:=⟨_,Tryz.underlying158,rfl⟩
theorem zus (w:World) (t:TypeId) (c c':Array Value) (n:Nat) (hi:(Tryz.prog.info? t).map (·.size)=some n) (hc:c.size=n) (hc':c'.size=n) (h1:∀v∈c',v.oneCell'=true) :
 (storeVar t ⟨w.heap.size,0,none⟩ (.agg c')).run Tryz.prog (w.alloc (.cells c t))=.ok () (w.alloc (.cells c' t)) :=
 run_storeVar_new w t c c' (by rw [hi,hc']) (by rw [hc,hc']) (Array.all_eq_true_iff_forall_mem.2 h1)
theorem zgh:zMed.size=129:=by simp [zMed,secC,zag,z64]
theorem zgj:zWri.size=65:=by simp [zWri,wriC,zag,z64]
theorem zfO:zCon.size=64:=by simp [zCon,zag,z64]
theorem zmZ {ops:Array Oper} {rest:List Oper} {op:Oper} {a:Act} {w:World} {Q:Exit→Act→World→Prop} (hgd:op.guard=none) (x:Operand) (ho:op.op=.load 156 x) (b o:Nat) (hx:a.eval x=.pointer (some ⟨b,o,none⟩)) (cs:List Value) (hc:w.rangeAt b o cs) (hl:cs.length=64)
 (h:wpList Tryz.prog ops Q rest (a.put op.dst (.agg cs.toArray)) w):wpList Tryz.prog ops Q (op :: rest) a w:=by
 obtain ⟨d,h1,h2⟩:=zsO
 exact wpList_load_mid hgd _ x ho b o hx cs d hc h1 h2 (by rw [zeX,hl]) h
theorem zfE {ops:Array Oper} {rest:List Oper} {op:Oper} {a:Act} {w:World} {Q:Exit→Act→World→Prop} (hgd:op.guard=none) (x:Operand) (ho:op.op=.load 158 x) (b o:Nat) (hx:a.eval x=.pointer (some ⟨b,o,none⟩)) (cs:List Value) (hc:w.rangeAt b o cs) (hl:cs.length=65)
 (h:wpList Tryz.prog ops Q rest (a.put op.dst (.agg cs.toArray)) w):wpList Tryz.prog ops Q (op :: rest) a w:=by
 obtain ⟨d,h1,h2⟩:=zsj
 exact wpList_load_mid hgd _ x ho b o hx cs d hc h1 h2 (by rw [zlU,hl]) h
theorem zuw {ops:Array Oper} {rest:List Oper} {op:Oper} {a:Act} {w:World} {Q:Exit→Act→World→Prop} (hgd:op.guard=none) (ty:TypeId) (x y:Operand) (ho:op.op=.store ty x y) (c c':Array Value) (n:Nat) (hx:a.eval x=.pointer (some ⟨w.heap.size,0,none⟩)) (hy:a.eval y=.agg c')
 (hi:(Tryz.prog.info? ty).map (·.size)=some n) (hc:c.size=n) (hc':c'.size=n) (h1:∀v∈c',v.oneCell'=true) (h:wpList Tryz.prog ops Q rest (a.put op.dst undef) (w.alloc (.cells c' ty))):wpList Tryz.prog ops Q (op :: rest) a (w.alloc (.cells c ty)) :=
 wpList_plain hgd fun _ hK=>by
  unfold Oper.wp execOp
  simp only [ho,hx,hy,Instr.storeAt,Instr.sureAddr,Sem.run_bind,Sem.run_pure,Result.andThen_ok,zus w ty c c' n hi hc hc' h1]
  exact hK _ _ h
theorem zgU {ops:Array Oper} {rest:List Oper} {op:Oper} {a:Act} {w:World} {Q:Exit→Act→World→Prop} (hgd:op.guard=none) (x y:Operand) (ho:op.op=.store 158 x y) (cs:List Value) (hx:a.eval x=.pointer (some ⟨w.heap.size,0,none⟩)) (hy:a.eval y=.agg cs.toArray)
 (hl:cs.length=65) (h1:∀v∈cs,v.oneCell'=true) (h:wpList Tryz.prog ops Q rest (a.put op.dst undef) (w.alloc (.cells cs.toArray 158))):wpList Tryz.prog ops Q (op :: rest) a (w.alloc (.cells zWri 158)) :=
 zuw hgd _ x y ho zWri _ 65 hx hy zlU zgj (by simpa using hl) (fun v hv=>h1 v (by simpa using hv)) h
theorem zcE (w:World) (t:TypeId) (cs pre mid post:List Value) (h:cs=pre++(mid++post)) (o:Nat) (ho:pre.length=o):(w.alloc (.cells cs.toArray t)).rangeAt w.heap.size o mid:=fun j v hv=>by
 subst h;subst ho
 have hj:j<mid.length:=(List.getElem?_eq_some_iff.1 hv).1
 rw [World.cell?_alloc_new]
 rw [List.getElem?_toArray,List.getElem?_append_right (by omega),Nat.add_sub_cancel_left,List.getElem?_append_left hj]
 exact hv
theorem zcn.range {w:World} {g:Nat} {m:DM} (h:zcn w g m) {s:Nat} (hs:s<m.size):w.rangeAt g (s * 129) (m.sec s):=fun j v hv=>by
 obtain ⟨cur,h1,_,h3⟩:=h
 rw [cell_of_row w g (s * 129+j) cur _ _ h1]
 exact h3 s hs j v hv
theorem DM.Ok.rest_at {m:DM} (h:m.Ok) {s:Nat} (hs:s<m.size):Sect (m.rest.getD s []):=by
 have hs':s<m.rest.length:=hs
 rw [List.getD_eq_getElem?_getD,List.getElem?_eq_getElem hs',Option.getD_some]
 exact h.rests _ (List.getElem_mem hs')
theorem DM.Ok.meant_at {m:DM} (h:m.Ok) {s:Nat} (hs:s<m.size):Sect (m.meant.getD s []):=by
 have hs':s<m.meant.length:=by rw [h.meant];exact hs
 rw [List.getD_eq_getElem?_getD,List.getElem?_eq_getElem hs',Option.getD_some]
 exact h.means _ (List.getElem_mem hs')
theorem DM.Ok.sec_len {m:DM} (h:m.Ok) {s:Nat} (hs:s<m.size):(m.sec s).length=129:=zcG (h.rest_at hs).1 (h.meant_at hs).1
structure New (B:Nat) (w:World) (A:Option Addr) (n:Nat) (l:List Nat):Prop where
 len:l.length=n
 lt:∀b∈l,b<256
 at_:(n=0∧A=none)∨∃g t,A=some ⟨g,0,none⟩∧B≤g∧w.heap[g]?=some (.cells (vb l).toArray t (0,0))
 le:n≤64
theorem New.none_ (B:Nat) (w:World):New B w none 0 []:=⟨rfl,by simp,.inl ⟨rfl,rfl⟩,by omega⟩
theorem New.by {B:Nat} {w:World} {A:Option Addr} {n:Nat} {l:List Nat} (h:New B w A n l):By w A n n l:=by
 have hn:n≤9223372036854775807:=by have:=h.le;omega
 rcases h.at_ with ⟨rfl,rfl⟩ | ⟨g,t,rfl,_,hg⟩
 ·rw [List.eq_nil_of_length_eq_zero h.len]
  exact By.nil_ w
 ·exact By.of_row hg (fun j x hx=>ztT hx) h.lt h.len (Nat.le_refl _) hn
theorem znE (l:List Nat) (w:World) :
 Calls Tryz.prog 178 #[.agg (vb l).toArray] w fun e w'=>e=.returned (.slice (some ⟨w.heap.size,0,none⟩) 64 64)∧w'=w.alloc (.cells (vb l).toArray 156):=by
 generalize (vb l).toArray=cs
 go_enter Tryz.func178,Tryz.ntmps178
 go_wp2
 go_ret
 exact ⟨rfl,rfl⟩
theorem zeF (m:DM) (s:Int):zbp m.size [s]=if m.has s=false then 2 else 0:=by
 unfold zbp DM.has
 by_cases h:0≤s∧s<(m.size:Int)
 ·rw [if_pos (by simpa using h)];simp [h]
 ·rw [if_neg (by simpa using h)]
  rw [if_pos]
  simp only [Bool.and_eq_false_iff,decide_eq_false_iff_not]
  omega
theorem ZsAt.one (w:World) (s:Int) (t:TypeId):ZsAt (w.alloc (.cells #[.int .i64 s] t)) (some ⟨w.heap.size,0,none⟩) 1 [s]:=by
 refine ⟨rfl,by omega,fun _=>⟨_,rfl,fun j z hz=>?_⟩⟩
 rw [World.cell?_alloc_new]
 have hj:j<1:=(List.getElem?_eq_some_iff.1 hz).1
 obtain rfl:j=0:=by omega
 simp at hz
 subst hz
 rfl
theorem PD.ext {w w':World} {d g:Nat} {pv:Value} {m:DM} (h:PD w d g pv m) (k:Ext w w'):PD w' d g pv m:=h.mod (F:=fun _=>False) (Mod.of_ext k) fun _ _ h=>h
theorem zky {m:DM} (h:m.Ok) {s:Nat} (hs:s<m.size):(m.sec s)[128]?=some (.bool (m.lost.getD s false)):=by
 have h1:=(h.rest_at hs).1
 have h2:=(h.meant_at hs).1
 show (vb (m.rest.getD s [])++(vb (m.meant.getD s [])++[Value.bool (m.lost.getD s false)]))[128]?=_
 rw [List.getElem?_append_right (by rw [zag];omega),List.getElem?_append_right (by rw [zag,zag];omega),zag,zag,h1,h2]
 rfl
theorem zjH (m:DM) (s:Nat):m.sec s=vb (m.rest.getD s [])++(vb (m.meant.getD s [])++[.bool (m.lost.getD s false)]):=rfl
theorem zbv {g t:Nat} {fr:Nat × Nat}:∀(vs:List Value) (o:Nat) {w:World} {cs:Array Value},w.heap[g]?=some (.cells cs t fr)→o+vs.length≤cs.size →
 ∃cs':Array Value,(w.setCells g o vs).heap[g]?=some (.cells cs' t fr)∧cs'.size=cs.size∧(∀j v,vs[j]?=some v→cs'[o+j]?=some v)∧∀k,k<o∨o+vs.length≤k→cs'[k]?=cs[k]?
 | [],o,w,cs,h,_=>⟨cs,h,rfl,fun j v hv=>by simp at hv,fun _ _=>rfl⟩
 | x :: r,o,w,cs,h,hl=>by
  simp only [List.length_cons] at hl
  have hrow:=zae o h x rfl
  obtain ⟨cs',h1,h2,h3,h4⟩:=zbv r (o+1) hrow (by simp;omega)
  refine ⟨cs',h1,by rw [h2];simp,fun j v hv=>?_,fun k hk=>?_⟩
  ·cases j with
   | zero =>
    simp only [List.getElem?_cons_zero,Option.some.injEq] at hv
    subst hv
    rw [Nat.add_zero,h4 o (.inl (by omega)),Array.getElem?_setIfInBounds,if_pos rfl,if_pos (by omega)]
   | succ j =>
    have:=h3 j v (by simpa using hv)
    rwa [show o+(j+1)=o+1+j by omega]
  ·simp only [List.length_cons] at hk
   rw [h4 k (by omega),Array.getElem?_setIfInBounds]
   rw [if_neg (by omega)]
theorem zcz (w:World) (g o:Nat) (vs:List Value):Mod (fun i=>i=g) w (w.setCells g o vs):=(Mod.refl _ _).setCells g o vs (.inl rfl)
theorem zcn.set {w:World} {g:Nat} {m m':DM} (h:zcn w g m) {s:Nat} (hs:s<m.size) (o:Nat) (vs:List Value) (hz:m'.size=m.size) (hin:o+vs.length≤129)
 (hoth:∀i,i<m.size→i≠s→m'.sec i=m.sec i) (hlen:∀i,i<m.size→(m'.sec i).length=129)
 (hsec:∀j v,(m'.sec s)[j]?=some v→if o≤j∧j<o+vs.length then vs[j-o]?=some v else (m.sec s)[j]?=some v):zcn (w.setCells g (s * 129+o) vs) g m':=by
 obtain ⟨cur,h1,h2,h3⟩:=h
 have hle:(s+1) * 129≤m.size * 129:=Nat.mul_le_mul_right _ hs
 obtain ⟨cs',c1,c2,c3,c4⟩:=zbv vs (s * 129+o) h1 (by omega)
 refine ⟨cs',c1,by rw [c2,h2,hz],fun i hi j v hv=>?_⟩
 rw [hz] at hi
 have hj:j<129:=by rw [←hlen i hi];exact (List.getElem?_eq_some_iff.1 hv).1
 by_cases he:i=s
 ·subst he
  have hh:=hsec j v hv
  split at hh
  ·rename_i hr
   have:=c3 (j-o) v hh
   rwa [show i * 129+o+(j-o)=i * 129+j by omega] at this
  ·rename_i hr
   rw [c4 _ (by omega)]
   exact h3 i hi j v hh
 ·rw [hoth i hi he] at hv
  have hne:i * 129+j<s * 129∨s * 129+129≤i * 129+j:=by
   rcases Nat.lt_or_gt_of_ne he with hlt | hgt
   ·left
    have:(i+1) * 129≤s * 129:=Nat.mul_le_mul_right _ hlt
    omega
   ·right
    have:(s+1) * 129≤i * 129:=Nat.mul_le_mul_right _ hgt
    omega
  rw [c4 _ (by omega)]
  exact h3 i hi j v hv
theorem zhn {m:DM} (h:m.Ok) {x:Nat × List Nat} (hx:x.1<m.size) (i:Nat):(m.come x).sec i=if i=x.1 then secC x.2 x.2 false else m.sec i:=by
 unfold DM.sec DM.come
 by_cases e:x.1=i
 ·subst e
  rw [if_pos rfl]
  simp only
  rw [zbR (show x.1<m.rest.length from hx),zbR (show x.1<m.meant.length by rw [h.meant];exact hx),zbR (show x.1<m.lost.length by rw [h.lost];exact hx),if_pos rfl,if_pos rfl,if_pos rfl]
 ·rw [if_neg (fun h=>e h.symm)]
  simp only
  rw [zaZ e,zaZ e,zaZ e]
theorem PD.come {w:World} {d g:Nat} {pv:Value} {m:DM} (h:PD w d g pv m) {x:Nat × List Nat} (hx2:Sect x.2) {w':World} (hm:Mod (fun i=>i=g) w w') (hmed:zcn w' g (m.come x)):PD w' d g pv (m.come x):=by
 have hz:=DM.come_size m x
 refine ⟨DM.come_ok h.ok hx2,by rw [hz];exact h.n1,h.top,?_,hmed,?_,h.dg,h.pd⟩
 ·rw [hz]
  exact zah h.head hm h.dg
 ·exact zas h.pen hm fun i hi=>(h.pd i hi).2
theorem zkM:∀(cs:List Value) (k:Nat) (o:Nat) (A:Array Value),(cs.zipIdx k).foldl (fun a (p:Value × Nat)=>a.setIfInBounds (o+p.2) p.1) A=(cs.zipIdx (o+k)).foldl (fun a (p:Value × Nat)=>a.setIfInBounds p.2 p.1) A
 | [],_,_,_=>rfl
 | c :: cs,k,o,A=>by
  simp only [List.zipIdx_cons,List.foldl_cons]
  rw [zkM cs (k+1) o _]
  rfl
theorem zfi:∀(cs pre mid post:List Value),mid.length=cs.length→(cs.zipIdx pre.length).foldl (fun (a:Array Value) (p:Value × Nat)=>a.setIfInBounds p.2 p.1) (pre++(mid++post)).toArray=(pre++(cs++post)).toArray
 | [],pre,mid,post,h=>by
  obtain rfl:=List.eq_nil_of_length_eq_zero (by simpa using h)
  rfl
 | c :: cs,pre,[],post,h=>by simp at h
 | c :: cs,pre,x :: mid,post,h=>by
  simp only [List.zipIdx_cons,List.foldl_cons]
  have e:(pre++(x :: mid++post)).toArray.setIfInBounds pre.length c=((pre++[c])++(mid++post)).toArray:=by
   simp
  rw [e]
  have:=zfi cs (pre++[c]) mid post (by simpa using h)
  rw [show (pre++[c]).length=pre.length+1 by simp] at this
  rw [this]
  simp
theorem zlj (place:Nat→Option (Nat × Nat)) (i:Nat) (cs pre mid post:List Value) (n:Nat) (hp:place i=some (pre.length,n)) (hn:cs.length=n) (hm:mid.length=n) (rest:List (Nat × Value)) :
 Instr.fill place (pre++(mid++post)).toArray ((i,.agg cs.toArray) :: rest)=Instr.fill place (pre++(cs++post)).toArray rest:=by
 rw [Instr.fill]
 simp only [hp]
 have e1:(Value.agg cs.toArray).cells=cs.toArray:=rfl
 rw [e1]
 rw [if_neg (by simp;omega)]
 congr 1
 have:=zfi cs pre mid post (by omega)
 rw [←this]
 have h2:=zkM cs 0 pre.length (pre++(mid++post)).toArray
 rw [Nat.add_zero] at h2
 rw [←h2]
 simp
theorem zov (a b:List Nat) (ha:a.length=64) (hb:b.length=64):Tryz.prog.built 201 [(0,.agg (vb a).toArray),(1,.agg (vb b).toArray)]=some (secC a b false).toArray:=by
 have key:∃places,Tryz.prog.built 201 [(0,.agg (vb a).toArray),(1,.agg (vb b).toArray)]=Instr.fill (fun i=>(places:Array (Nat × Nat))[i]?) zMed [(0,.agg (vb a).toArray),(1,.agg (vb b).toArray)]∧places[0]?=some (0,64)∧places[1]?=some (64,64):=by
  refine ⟨#[(0,64),(64,64),(128,1)],?_,rfl,rfl⟩
  kernel_rfl
 obtain ⟨places,h1,h2,h3⟩:=key
 rw [h1]
 have z0:zMed=([]++(vb z64++(vb z64++[Value.bool false]))).toArray:=rfl
 rw [z0,zlj _ 0 (vb a) [] (vb z64) (vb z64++[Value.bool false]) 64 h2 (by rw [zag,ha]) (by simp [zag,z64])]
 rw [List.nil_append]
 rw [zlj _ 1 (vb b) (vb a) (vb z64) [Value.bool false] 64 (by rw [zag,ha];exact h3) (by rw [zag,hb]) (by simp [zag,z64])]
 rfl
theorem zhc {ops:Array Oper} {o:Oper} {a:Act} {w:World} {K:Act→Prop} (ty:TypeId) (x:Operand) (ho:o.op=.load ty x) (b p:Nat) (hx:a.eval x=.pointer (some ⟨b,p,none⟩)) (cs:List Value) (d:TypeDesc) (hc:w.rangeAt b p cs)
 (hu:Tryz.prog.underlying ty=some d) (hd:d.isRow=true) (hi:(Tryz.prog.info? ty).map (·.size)=some cs.length) (hw:Region.wanted o (yielded ops a.tmps)=true) (h:K (a.put o.dst (.agg cs.toArray))) :
 if Region.wanted o (yielded ops a.tmps) then o.still Tryz.prog a w K else K (a.put o.dst undef):=by
 rw [if_pos hw]
 unfold Oper.still execOp
 simp only [ho,hx,Instr.loadAt,Instr.sureAddr,Sem.run_bind,Sem.run_pure,Result.andThen_ok,run_loadVar_mid w b p ty cs d hc hu hd hi,Oper.stillUpon_value]
 exact h
theorem zkB {ops:Array Oper} {o:Oper} {a:Act} {w:World} {K:Act→Prop} (t:TypeId) (parts:Array (Nat × Operand)) (ho:o.op=.build t parts) (cells:Array Value) (hb:Tryz.prog.built t (parts.map fun (i,x)=>(i,a.eval x)).toList=some cells)
 (hw:Region.wanted o (yielded ops a.tmps)=true) (h:K (a.put o.dst (.agg cells))):if Region.wanted o (yielded ops a.tmps) then o.still Tryz.prog a w K else K (a.put o.dst undef):=by
 rw [if_pos hw]
 unfold Oper.still execOp
 simp only [ho,Sem.run_bind,run_build w t _ cells hb,Result.andThen_ok,Sem.run_pure,Oper.stillUpon_value]
 exact h
theorem zeP {id:Nat} {Q:Exit→Act→World→Prop} {a:Act} {w:World} {l:List Oper} (n:Nat) (hm:Tryz.prog.follows .mixedOrders=true) (hB:Region.lexTailB .any l.toArray n=true)
 (h:wpStill Tryz.prog l.toArray w.drew (fun a'=>wpList Tryz.prog l.toArray Q (l.drop n) a' w.drew) (l.take n) a):(Code.region id l.toArray true).wp Tryz.prog Q a w:=wp_region_still_tail n hm hB h
theorem znw (x:Nat × List Nat):wriC x=vb x.2++[.int .i64 (x.1:Int)]:=rfl
theorem zqx {x:Nat × List Nat} (h:x.2.length=64):(wriC x)[64]?=some (.int .i64 (x.1:Int)):=by
 rw [znw,List.getElem?_append_right (by rw [zag];omega),zag,h]
 rfl
theorem zei {w:World} {g t:Nat} {cs:Array Value} (h:w.heap[g]?=some (.cells cs t (0,0))) (o n:Nat) (hn:o+n≤cs.size):w.there g o n:=fun j hj=>by
 refine ⟨?_,frozen_of_row w g _ _ _ h⟩
 rw [cell_of_row w g (o+j) cs t (0,0) h,Array.getElem?_eq_getElem (by omega)]
 rfl
theorem zkf {w:World} {d g:Nat} {pv:Value} {m:DM} (h:PD w d g pv m) (x:Nat × List Nat) (hx:x.1<m.size) (hx2:Sect x.2) :
 Calls Tryz.prog 130 #[aD d 0,.agg (wriC x).toArray] w fun e w'=>(∃v,e=.returned v)∧PD w' d g pv (m.come x)∧Mod (fun i=>i=g) w w':=by
 have H:=qj h
 have hE:=((Ext.refl w).alloc (.cells (wriC x).toArray 158)).drew
 have H2:=qj (h.ext hE)
 obtain ⟨⟨c0,c1,c2,c3,c4⟩,f0,f1,f2,f3,f4⟩:=(h.ext hE).cells
 have hb64:(w.alloc (.cells (wriC x).toArray 158)).drew.cell? (aD w.heap.size 64)=some (.int .i64 (x.1:Int)):=by
  rw [show (w.alloc (.cells (wriC x).toArray 158)).drew.cell? (aD w.heap.size 64)=(w.alloc (.cells (wriC x).toArray 158)).cell? (aD w.heap.size 64) from rfl,World.cell?_alloc_new,List.getElem?_toArray,zqx hx2.1]
 have HR:Hid ((w.alloc (.cells (wriC x).toArray 158)).drew.rangeAt w.heap.size 0 (vb x.2)):=qj (zcE w _ _ [] _ _ (znw x) 0 rfl)
 have HX:=qj hx2
 have HB:=qj (zov x.2 x.2 hx2.1 hx2.1)
 have HE:=qj hE
 have hlt:(x.1:Int)<(m.size:Nat):=by omega
 have hge:(0:Int)≤(x.1:Int):=by omega
 clear h hE hx2 f0 f1 f2 f3 f4 c0 c1 c2 c4
 go_enter Tryz.func130,Tryz.ntmps130
 go_wp2_with fail
 refine zeP 12 (by kernel_rfl) (by kernel_rfl) ?_
 simp only [List.take_succ_cons,List.take_zero,List.drop_succ_cons,List.drop_zero]
 generalize (w.alloc (.cells (wriC x).toArray 158)).drew=w2 at *
 still_step
 still_step
 still_step
 still_step
 still_step
 still_step
 still_step
 refine wpStill_step (fun K hK=>?_)
 refine zhc 156 _ rfl w.heap.size 0 rfl (vb x.2) _ HR.out Tryz.underlying156 rfl (by rw [zeX,zag,HX.out.1]) (by rfl) (hK _ ?_)
 clear hK K
 still_step
 refine wpStill_step (fun K hK=>?_)
 refine zhc 156 _ rfl w.heap.size 0 rfl (vb x.2) _ HR.out Tryz.underlying156 rfl (by rw [zeX,zag,HX.out.1]) (by rfl) (hK _ ?_)
 clear hK K
 refine wpStill_step (fun K hK=>?_)
 refine zkB 201 _ rfl (secC x.2 x.2 false).toArray (by simpa [Act.eval,Act.put] using HB.out) (by rfl) (hK _ ?_)
 clear hK K
 still_step
 refine wpStill_nil ?_
 obtain ⟨cur,hg,hsz,hcur⟩:=H2.out.med
 have hle:(x.1+1) * 129≤m.size * 129:=Nat.mul_le_mul_right _ hx
 have hlen:(secC x.2 x.2 false).length=129:=zcG HX.out.1 HX.out.1
 have HTH:Hid (w2.there g (x.1 * 129) (secC x.2 x.2 false).toArray.size):=qj (zei hg _ _ (by rw [List.size_toArray,hlen,hsz];omega))
 have HSZ:Hid ((Tryz.prog.info? 201).map (·.size)=some (secC x.2 x.2 false).toArray.size):=qj (by rw [zqv,List.size_toArray,hlen])
 clear hcur hg hsz hle hlen c3 hb64
 go_wp2_with (refine wpList_store_mid rfl 201 _ _ rfl g (x.1 * 129) (secC x.2 x.2 false).toArray rfl rfl HTH.out HSZ.out (all_oneCell_toArray (zhE _ _ _)) ?_)
 go_end0
 have hm:Mod (fun i=>i=g) w (w2.setCells g (x.1 * 129) (secC x.2 x.2 false)):=(Mod.of_ext (F:=fun i=>i=g) HE.out).trans (zcz w2 g _ _) fun _ hi=>.inl hi
 refine ⟨⟨_,rfl⟩,H.out.come HX.out hm ?_,hm⟩
 have hlen:(secC x.2 x.2 false).length=129:=zcG HX.out.1 HX.out.1
 refine zcn.set (m':=m.come x) H2.out.med hx 0 (secC x.2 x.2 false) (DM.come_size m x) (by omega) (fun i hi hne=>?_) (fun i hi=>?_) (fun j v hv=>?_)
 ·rw [zhn H2.out.ok hx,if_neg hne]
 ·rw [zhn H2.out.ok hx]
  split
  ·exact hlen
  ·exact H2.out.ok.sec_len hi
 ·rw [zhn H2.out.ok hx,if_pos rfl] at hv
  have hj:j<(secC x.2 x.2 false).length:=(List.getElem?_eq_some_iff.1 hv).1
  rw [if_pos ⟨by omega,by omega⟩]
  exact hv
section
open Go Go.RowKit Go.ChangeShapes Go.WideShapes
theorem bs_of_row {w:World} {x:Addr} {n c:Nat} {zs:List Int} (hl:n≤c) (hm:c≤maxLen) (hz:zs.length=c) (hcell:∀i,i<zs.length→w.cell? (x.add i)=some (.int .u8 (zs.getD i 0))) (hwz:∀z∈zs,(Lit.int .u8 z).wf=true) :
 Bs w w.heap.size (some x) n c ((zs.take n).map Int.toNat):=by
 have hb:∀z∈zs,0≤z∧z<256:=by
  intro z hzm
  have:=bounds_u8 (hwz z hzm)
  omega
 refine ⟨by simp [hz,hl],hl,by unfold maxLen at hm;exact hm,⟨?_,?_⟩,fun h=>by cases h⟩
 ·intro b hbm
  simp only [List.mem_map] at hbm
  obtain ⟨z,hzm,rfl⟩:=hbm
  have:=hb z (List.mem_of_mem_take hzm)
  omega
 ·intro h0
  have hn:0<n:=by
   rw [List.length_map,List.length_take] at h0
   omega
  obtain ⟨g,o,spot⟩:=x
  have hc:=hcell 0 (by omega)
  have hspot:spot=none:=by simpa [Addr.add] using World.cell?_spot hc
  subst hspot
  refine ⟨g,o,rfl,?_,fun j y hy=>?_⟩
  ·have:=World.block_lt_of_cell? w _ hc
   simpa [Addr.add] using this
  ·rw [List.getElem?_map] at hy
   obtain ⟨z,hzj,rfl⟩:=Option.map_eq_some_iff.1 hy
   have hjn:j<n∧zs[j]?=some z:=by
    rw [List.getElem?_take] at hzj
    split at hzj
    ·exact ⟨by assumption,hzj⟩
    ·cases hzj
   have hzb:=hb z (List.mem_of_getElem? hjn.2)
   have h2:=hcell j (by omega)
   rw [Addr.add_lit] at h2
   rw [h2,List.getD_eq_getElem?_getD,hjn.2]
   simp only [Option.getD_some]
   rw [Int.toNat_of_nonneg hzb.1]
end
section
open Go Go.RowKit Go.ChangeShapes Go.WideShapes Go.Deep
structure Vs (w:World) (B:Nat) (A:Option Addr) (n c:Nat) (vs:List Value):Prop where
 len:vs.length=n
 cap:n≤c
 most:c≤9223372036854775807
 rd:0<n→∃g o,A=some ⟨g,o,none⟩∧g<B∧∀j v,vs[j]?=some v→w.cell? ⟨g,o+j,none⟩=some v
 nil_:A=none→c=0
theorem Vs.below {w w':World} {B:Nat} {A:Option Addr} {n c:Nat} {vs:List Value} (h:Vs w B A n c vs) (hb:Below B w w'):Vs w' B A n c vs :=
 ⟨h.len,h.cap,h.most,fun hn=>by
  obtain ⟨g,o,e,hg,hc⟩:=h.rd hn
  exact ⟨g,o,e,hg,fun j v hv=>(hb.cell (p:=⟨g,o+j,none⟩) hg).trans (hc j v hv)⟩,h.nil_⟩
theorem Vs.more {w:World} {B B':Nat} {A:Option Addr} {n c:Nat} {vs:List Value} (h:Vs w B A n c vs) (hB:B≤B'):Vs w B' A n c vs :=
 ⟨h.len,h.cap,h.most,fun hn=>by
  obtain ⟨g,o,e,hg,hc⟩:=h.rd hn
  exact ⟨g,o,e,by omega,hc⟩,h.nil_⟩
structure Act5 where
 kind:Nat:=0
 sec:Int:=0
 num:Int:=0
 bA:Option Addr:=none
 bn:Nat:=0
 bc:Nat:=0
 bl:List Nat:=[]
 kA:Option Addr:=none
 kn:Nat:=0
 kc:Nat:=0
 kl:List Bool:=[]
instance:Inhabited Act5:=⟨{}⟩
def Act5.cells (a:Act5):List Value:=[.int .u8 (a.kind:Int),.int .i64 a.sec,.int .i64 a.num,.slice a.bA a.bn a.bc,.slice a.kA a.kn a.kc]
structure Act5.Ok (a:Act5) (w:World) (B:Nat):Prop where
 kind:a.kind<256
 sec:(Lit.int .i64 a.sec).wf=true
 num:(Lit.int .i64 a.num).wf=true
 bytes:Bs w B a.bA a.bn a.bc a.bl
 keep:Vs w B a.kA a.kn a.kc (a.kl.map .bool)
theorem Act5.Ok.below {a:Act5} {w w':World} {B:Nat} (h:a.Ok w B) (hb:Below B w w'):a.Ok w' B:=⟨h.kind,h.sec,h.num,h.bytes.below hb,h.keep.below hb⟩
theorem Act5.Ok.more {a:Act5} {w:World} {B B':Nat} (h:a.Ok w B) (hB:B≤B'):a.Ok w B':=⟨h.kind,h.sec,h.num,h.bytes.more hB,h.keep.more hB⟩
structure Acts (w:World) (B:Nat) (A:Option Addr) (n c:Nat) (l:List Act5):Prop where
 len:l.length=n
 cap:n≤c
 most:c≤9223372036854775807
 each:∀a∈l,a.Ok w B
 rd:0<n→∃g o,A=some ⟨g,o,none⟩∧g<B∧∀j a,l[j]?=some a→∀k v,a.cells[k]?=some v→w.cell? ⟨g,o+(j * 5+k),none⟩=some v
 nil_:A=none→c=0
theorem Acts.at_ {w:World} {B:Nat} {A:Option Addr} {n c:Nat} {l:List Act5} (h:Acts w B A n c l) {j:Nat} (hj:j<n):∃g o a,A=some ⟨g,o,none⟩∧g<B∧l[j]?=some a∧a.Ok w B ∧
 w.cell? (aD g (o+j * 5))=some (.int .u8 (a.kind:Int))∧w.cell? (aD g (o+j * 5+1))=some (.int .i64 a.sec)∧w.cell? (aD g (o+j * 5+2))=some (.int .i64 a.num) ∧
 w.cell? (aD g (o+j * 5+3))=some (.slice a.bA a.bn a.bc)∧w.cell? (aD g (o+j * 5+4))=some (.slice a.kA a.kn a.kc):=by
 obtain ⟨g,o,e,hg,hc⟩:=h.rd (by omega)
 have hj':j<l.length:=by rw [h.len];exact hj
 have ha:l[j]?=some l[j]:=List.getElem?_eq_getElem hj'
 have cell:=fun (k:Nat) (v:Value) (hv:(l[j]).cells[k]?=some v)=>hc j _ ha k v hv
 exact ⟨g,o,l[j],e,hg,ha,h.each _ (List.getElem_mem hj'),cell 0 _ rfl,cell 1 _ rfl,cell 2 _ rfl,cell 3 _ rfl,cell 4 _ rfl⟩
section
variable {H:Type} {enc:TypeId × Value→H} {P:Program} {w:World} {base:Nat} {spare:Nat→Bool} {held:Bool}
theorem zgT {t e:TypeId} {fuel:Nat} {cs:List Value} {x:DataW H × List MemPlace} (ht:P.underlying t=some (.slice e)) (he:P.underlying e=some (.int .u8)) (hce:P.cellsOf e=1)
 (hsp:∀g,spare g=true) (h:DataW.trod enc P w base spare held fuel t cs=some x):∃(A:Option Addr) (n c:Nat) (l:List Nat),cs=[.slice A n c]∧Bs w w.heap.size A n c l:=by
 rcases open_ints ht he hce h with ⟨rfl,_⟩ | ⟨a,l,c,zs,rfl,_,hl,hm,hz,_,hcell,hwz⟩
 ·exact ⟨none,0,0,[],rfl,rfl,Nat.le_refl _,by omega,Rd.nil_,fun _=>rfl⟩
 ·rw [hsp,if_pos rfl] at hz
  exact ⟨_,_,_,_,rfl,bs_of_row hl hm hz hcell hwz⟩
theorem zmI {t e:TypeId} {fuel:Nat} {cs:List Value} {x:DataW H × List MemPlace} (ht:P.underlying t=some (.slice e)) (he:P.underlying e=some .bool) (hce:P.cellsOf e=1)
 (h:DataW.trod enc P w base spare held fuel t cs=some x):∃(A:Option Addr) (n c:Nat) (l:List Bool),cs=[.slice A n c]∧Vs w w.heap.size A n c (l.map .bool):=by
 rcases open_slice1 ht hce h with ⟨rfl,_⟩ | ⟨a,len,cap,m,n,V,D,Pl,rfl,_,hl,hm,hmm,_,hi⟩
 ·exact ⟨none,0,0,[],rfl,rfl,Nat.le_refl _,by omega,fun h=>absurd h (by omega),fun _=>rfl⟩
 ·have hle:len≤m:=by rw [hmm];split <;> omega
  have each:∀i,i<len→∃b:Bool,w.cell? (a.add i)=some (.bool b):=fun i hil=>by
   obtain ⟨h1,h2⟩:=hi i (by omega)
   obtain ⟨b,hb,_⟩:=DataW.trod_bool he h2
   injection hb with hb
   rw [hb] at h1
   exact ⟨b,h1⟩
  obtain ⟨f,hf⟩:=choose_lt each
  refine ⟨some a,len,cap,(List.range len).map f,rfl,by simp,hl,by unfold maxLen at hm;exact hm,fun hn=>?_,fun h=>by cases h⟩
  obtain ⟨g,o,spot⟩:=a
  have hc:=hf 0 hn
  have hspot:spot=none:=by simpa [Addr.add] using World.cell?_spot hc
  subst hspot
  refine ⟨g,o,rfl,?_,fun j v hv=>?_⟩
  ·have:=World.block_lt_of_cell? w _ hc
   simpa [Addr.add] using this
  ·rw [List.getElem?_map,List.getElem?_map] at hv
   obtain ⟨b,hb,rfl⟩:=Option.map_eq_some_iff.1 hv
   obtain ⟨i,hi2,rfl⟩:=Option.map_eq_some_iff.1 hb
   obtain ⟨hjl,hji⟩:=List.getElem?_eq_some_iff.1 hi2
   simp at hjl hji
   subst hji
   have:=hf j hjl
   rwa [Addr.add_lit] at this
structure ActTy (P:Program) (e t8 ti tb tk e8 eb:TypeId):Prop where
 fs:∃f0 f1 f2 f3 f4:Field,P.underlying e=some (.struct #[f0,f1,f2,f3,f4])∧(f0.type=t8∧f0.offset=0)∧(f1.type=ti∧f1.offset=1)∧(f2.type=ti∧f2.offset=2)∧(f3.type=tb∧f3.offset=3)∧(f4.type=tk∧f4.offset=4)
 cells:P.cellsOf e=5
 one:P.cellsOf t8=1∧P.cellsOf ti=1∧P.cellsOf tb=1∧P.cellsOf tk=1∧P.cellsOf eb=1
 u8:P.underlying t8=some (.int .u8)
 i64:P.underlying ti=some (.int .i64)
 bytes:P.underlying tb=some (.slice e8)∧P.underlying e8=some (.int .u8)∧P.cellsOf e8=1
 keep:P.underlying tk=some (.slice eb)∧P.underlying eb=some .bool
theorem zpF {e t8 ti tb tk e8 eb:TypeId} (T:ActTy P e t8 ti tb tk e8 eb) (hsp:∀g,spare g=true) {fuel:Nat} {cs:List Value} {x:DataW H × List MemPlace} (h:DataW.trod enc P w base spare held fuel e cs=some x):∃a:Act5,cs=a.cells∧a.Ok w w.heap.size:=by
 obtain ⟨f0,f1,f2,f3,f4,hs,⟨y0,o0⟩,⟨y1,o1⟩,⟨y2,o2⟩,⟨y3,o3⟩,y4,o4⟩:=T.fs
 obtain ⟨xs,n,_,_,hcl,hxl,hg⟩:=DataW.trod_struct hs h
 rw [T.cells] at hcl
 match cs,hcl,xs,hxl with
 | [c0,c1,c2,c3,c4],_,[x0,x1,x2,x3,x4],_ =>
  have g0:=hg 0 f0 rfl
  have g1:=hg 1 f1 rfl
  have g2:=hg 2 f2 rfl
  have g3:=hg 3 f3 rfl
  have g4:=hg 4 f4 rfl
  rw [y0,o0,T.one.1] at g0
  rw [y1,o1,T.one.2.1] at g1
  rw [y2,o2,T.one.2.1] at g2
  rw [y3,o3,T.one.2.2.1] at g3
  rw [y4,o4,T.one.2.2.2.1] at g4
  obtain ⟨k,e0,_,hk⟩:=DataW.trod_int T.u8 (show DataW.trod enc P w base spare held n t8 [c0]=some x0 from g0)
  obtain ⟨s,e1,_,hsc⟩:=DataW.trod_int T.i64 (show DataW.trod enc P w base spare held n ti [c1]=some x1 from g1)
  obtain ⟨m,e2,_,hm⟩:=DataW.trod_int T.i64 (show DataW.trod enc P w base spare held n ti [c2]=some x2 from g2)
  obtain ⟨bA,bn,bc,bl,e3,hb⟩:=zgT T.bytes.1 T.bytes.2.1 T.bytes.2.2 hsp (show DataW.trod enc P w base spare held n tb [c3]=some x3 from g3)
  obtain ⟨kA,kn,kc,kl,e4,hkp⟩:=zmI T.keep.1 T.keep.2 T.one.2.2.2.2 (show DataW.trod enc P w base spare held n tk [c4]=some x4 from g4)
  injection e0 with e0 _
  injection e1 with e1 _
  injection e2 with e2 _
  injection e3 with e3 _
  injection e4 with e4 _
  have hk8:=bounds_u8 hk
  refine ⟨{ kind:=k.toNat,sec:=s,num:=m,bA:=bA,bn:=bn,bc:=bc,bl:=bl,kA:=kA,kn:=kn,kc:=kc,kl:=kl },?_,⟨by show k.toNat<256;omega,hsc,hm,hb,hkp⟩⟩
  rw [e0,e1,e2,e3,e4]
  show _=[Value.int .u8 ((k.toNat:Nat):Int),_,_,_,_]
  rw [Int.toNat_of_nonneg hk8.1]
end
end
theorem PD.pen_at {w:World} {d g:Nat} {pv:Value} {m:DM} (h:PD w d g pv m) {j:Nat} {x:Nat × List Nat} (hx:m.waits[j]?=some x) :
 ∃b c,pv=.slice (some ⟨b,0,none⟩) m.waits.length c∧w.rangeAt b (j * 65) (wriC x):=by
 have hj:j<m.waits.length:=(List.getElem?_eq_some_iff.1 hx).1
 rcases h.pen.2 with ⟨_,h0⟩ | ⟨b,cap,cur,rfl,_,hg,h1,h2,h3,h4⟩
 ·omega
 ·refine ⟨b,cap,rfl,fun i v hv=>?_⟩
  rw [cell_of_row w b _ cur _ _ hg]
  have hp:=zks (fun y hy=>(h.ok.waits y hy).2.1) hx i v hv
  rw [←h4] at hp
  rw [List.getElem?_take] at hp
  split at hp
  ·simpa using hp
  ·cases hp
theorem PD.cleared {w w':World} {d g:Nat} {pv:Value} {m:DM} (h:PD w d g pv m) (k:Mod (fun i=>i=d) w w') (m':DM)
 (hh:zfT w' d (aD d 0) (stOf m') m'.power (.slice (some ⟨g,0,none⟩) m.size m.size) (.slice none 0 0))
 (hok:m'.Ok) (h1:m'.rest=m.rest) (h2:m'.meant=m.meant) (h3:m'.lost=m.lost) (h4:m'.waits=[]) (hp:m'.power=m.power):PD w' d g (.slice none 0 0) m':=by
 have hz:m'.size=m.size:=by unfold DM.size;rw [h1]
 refine ⟨hok,by rw [hz];exact h.n1,by rw [hp];exact h.top,by rw [hz];exact hh,?_,?_,h.dg,fun k hk=>(by cases hk)⟩
 ·obtain ⟨cur,c1,c2,c3⟩:=h.med.mod k (fun e=>h.dg e.symm)
  exact ⟨cur,c1,by rw [hz];exact c2,fun s hs j v hv=>c3 s (by rw [←hz];exact hs) j v (by unfold DM.sec at hv ⊢;rw [h1,h2,h3] at hv;exact hv)⟩
 ·rw [h4]
  exact World.ownsRow_nil _ _ _ _
theorem zdH (m:DM) (l:List (Nat × List Nat)) (x:Nat × List Nat):m.comes (l++[x])=(m.comes l).come x:=by simp [DM.comes]
theorem zer {l:List (Nat × List Nat)} {j:Nat} {x:Nat × List Nat} (h:l[j]?=some x):l.take (j+1)=l.take j++[x]:=by
 rw [List.take_add_one,h];rfl
def Fdg (d g:Nat) (i:Nat):Prop:=i=d∨i=g
theorem Fdg.of_d {d g:Nat} {w w':World} (h:Mod (fun i=>i=d) w w'):Mod (Fdg d g) w w':=h.mono fun _ hi=>.inl hi
theorem Fdg.of_g {d g:Nat} {w w':World} (h:Mod (fun i=>i=g) w w'):Mod (Fdg d g) w w':=h.mono fun _ hi=>.inr hi
theorem Mod.then {F:Nat→Prop} {a b c:World} (h:Mod F a b) (k:Mod F b c):Mod F a c:=h.trans k fun _ hi=>.inl hi
theorem zpP {w:World} {d g:Nat} {pv:Value} {m:DM} (h:PD w d g pv m) :
 Calls Tryz.prog 75 #[aD d 0] w fun e w'=>∃pv',e=.returned m.flush.1∧PD w' d g pv' m.flush.2∧(pv'=pv∨pv'=.slice none 0 0)∧Mod (Fdg d g) w w':=by
 have hr:=zcR h none 0 0 [] (ZsAt.nil_ w)
 have HR:=qj hr
 have H:=qj h
 have HE:Hid (runE m []=if m.up=false then 5 else 0):=qj (by
  unfold runE zbp
  simp)
 have HP:Hid (m.flush=if m.up=false then (5,m) else if m.power=0 then (5,{ m with dead:=true }) else (0,{ ({ m with power:=lessP m.power }:DM).comes m.waits with waits:=[] })):=qj rfl
 have HO:=qj (DM.flush_ok h.ok)
 clear h hr
 by_cases hu:m.up=false
 ·have HE1:Hid (runE m []=5):=qj (by rw [HE.out,if_pos hu])
  have HP1:Hid (m.flush=(5,m)):=qj (by rw [HP.out,if_pos hu])
  clear hu HE HP
  go_enter Tryz.func75,Tryz.ntmps75
  go_wp2_with fail
  refine HR.out.mono ?_
  rw [HE1.out]
  rintro e w1 ⟨rfl,rfl⟩
  go_wp2_with fail
  go_ret
  exact ⟨pv,by rw [HP1.out];rfl,by rw [HP1.out];exact H.out,.inl rfl,Mod.refl _ _⟩
 ·have HE1:Hid (runE m []=0):=qj (by rw [HE.out,if_neg hu])
  have hup:m.up=true:=by simpa using hu
  have hdr:=znc H.out.headAt H.out.ok.power H.out.top
  have HD:=qj hdr
  by_cases hp0:m.power=0
  ·have HP1:Hid (m.flush=(5,{ m with dead:=true })):=qj (by rw [HP.out,if_neg hu,if_pos hp0])
   have HS:Hid (ziy m.power=5∧ziY m.power (stOf m)=stOf { m with dead:=true }∧lessP m.power=0):=qj ⟨by rw [hp0];rfl,by
    rw [hp0]
    show (1:Int)=stOf { m with dead:=true }
    unfold stOf
    have hd:m.down=false:=by
     unfold DM.up at hup
     cases hm:m.down <;> simp_all
    simp [hd],by rw [hp0];rfl⟩
   have HP0:=qj hp0
   clear hu hup hdr hp0 HE HP
   go_enter Tryz.func75,Tryz.ntmps75
   go_wp2_with fail
   refine HR.out.mono ?_
   rw [HE1.out]
   rintro e w1 ⟨rfl,rfl⟩
   go_wp2_with fail
   refine HD.out.mono ?_
   rw [HS.out.1,HS.out.2.1,HS.out.2.2]
   rintro e w1 ⟨rfl,hh,hm⟩
   have HM:=qj hm
   have HH:=qj hh
   clear hh hm
   go_wp2_with fail
   go_ret
   refine ⟨pv,by rw [HP1.out];rfl,?_,.inl rfl,Fdg.of_d HM.out⟩
   exact H.out.head_turned HM.out (stOf { m with dead:=true }) 0 HH.out _ HO.out (by rw [HP1.out]) (by rw [HP1.out]) (by rw [HP1.out]) (by rw [HP1.out]) (by rw [HP1.out]) (by rw [HP1.out];exact HP0.out) (by omega)
  ·have HP1:Hid (m.flush=(0,{ ({ m with power:=lessP m.power }:DM).comes m.waits with waits:=[] })):=qj (by rw [HP.out,if_neg hu,if_neg hp0])
   have HS:Hid (ziy m.power=0∧ziY m.power (stOf m)=stOf m):=qj ⟨if_neg hp0,if_neg hp0⟩
   clear hu hup hdr hp0 HE HP
   go_enter Tryz.func75,Tryz.ntmps75
   go_wp2_with fail
   refine HR.out.mono ?_
   rw [HE1.out]
   rintro e w1 ⟨rfl,rfl⟩
   go_wp2_with fail
   refine HD.out.mono ?_
   rw [HS.out.1,HS.out.2]
   rintro e w1 ⟨rfl,hh,hm⟩
   have hpd:PD w1 d g pv { m with power:=lessP m.power }:=H.out.head_turned hm (stOf m) (lessP m.power) hh { m with power:=lessP m.power } ⟨H.out.ok.meant,H.out.ok.lost,H.out.ok.rests,H.out.ok.means,H.out.ok.waits,zff H.out.ok.power⟩ rfl rfl rfl rfl rfl rfl (by
    have:=H.out.top
    unfold lessP
    split <;> omega)
   have HPW:Hid (({ m with power:=lessP m.power }:DM).waits=m.waits):=qj rfl
   generalize ({ m with power:=lessP m.power }:DM)=m1 at *
   have HM:=qj (Fdg.of_d (g:=g) hm)
   have H1:=qj hpd
   obtain ⟨⟨c0,c1,c2,c3,c4⟩,_⟩:=hpd.cells
   obtain ⟨A,c,hpv,hcap,hmost⟩:=hpd.pv_form
   rw [HPW.out] at hpv hcap
   obtain ⟨k,hk⟩:∃k,m.waits.length=k:=⟨_,rfl⟩
   have HK:=qj hk
   rw [hk] at hpv hcap
   subst hpv
   clear hh hm hpd hk c0 c1 c2 c3
   go_wp2_with fail
   go_loopw [22] (fun i wr=>∃j:Nat,j≤k∧i=.int .i64 j∧PD wr d g (.slice A k c) (m1.comes (m.waits.take j))∧Mod (Fdg d g) w wr) (fun i _=>k-(intOf i).toNat)
   case atStart=>exact ⟨0,Nat.zero_le _,rfl,H1.out,HM.out⟩
   case round =>
    obtain ⟨j,hj,rfl,hpd,hmod⟩:=hrel
    have HPD:=qj hpd
    have HMD:=qj hmod
    clear hpd hmod c4
    by_cases hlt:j<k
    ·obtain ⟨x,hx⟩:∃x,m.waits[j]?=some x:=⟨_,List.getElem?_eq_getElem (by rw [HK.out];exact hlt)⟩
     have hcw:=DM.comes_waits (m.waits.take j) m1
     have hx2:(m1.comes (m.waits.take j)).waits[j]?=some x:=by rw [hcw.1,HPW.out];exact hx
     obtain ⟨b,c',hpv,hrange⟩:=HPD.out.pen_at hx2
     injection hpv with hA hB hC
     subst hA
     clear hB hC
     have hxm:=HPD.out.ok.waits x (List.mem_of_getElem? hx2)
     have HX:=qj hx
     have HXM:=qj hxm
     have HRG:=qj hrange
     have HL65:Hid ((wriC x).length=65):=qj (zcF hxm.2.1)
     have hzv:=zjC
     have HRN:Hid ((wr.alloc (.cells (wriC x).toArray 158)).rangeAt wr.heap.size 0 (wriC x)):=qj (zcE wr _ (wriC x) [] (wriC x) [] (by simp) 0 rfl)
     clear hcw hx hx2 hrange hxm
     go_wp2_with (first
      | (refine zfE rfl _ rfl b (j * 65) rfl (wriC x) HRG.out HL65.out ?_)
      | (refine zgU rfl _ _ rfl (wriC x) rfl rfl HL65.out (zcP x) ?_)
      | (refine zfE rfl _ rfl wr.heap.size 0 rfl (wriC x) HRN.out HL65.out ?_))
     have hE:=(Ext.refl wr).alloc (.cells (wriC x).toArray 158)
     refine (zkf (HPD.out.ext hE) x HXM.out.1 HXM.out.2).mono ?_
     rintro e w3 ⟨⟨v,rfl⟩,hp3,hm3⟩
     have HP3:=qj hp3
     have HM3:=qj ((HMD.out.ext hE).then (Fdg.of_g hm3))
     clear hp3 hm3 hE
     go_wp2_with fail
     go_roundw
     case rel=>exact ⟨j+1,by omega,by go_num,by rw [zer HX.out,zdH];exact HP3.out,HM3.out⟩
     case measure=>simp [intOf];omega
    ·have HTK:Hid (m.waits.take j=m.waits):=qj (List.take_of_length_le (by rw [HK.out];omega))
     obtain ⟨⟨c0,c1,c2,c3,c4⟩,f0,f1,f2,f3,f4⟩:=HPD.out.cells
     clear c0 c1 c2 c3 f0 f1 f2 f3
     go_wp2_with fail
     go_ret
     have hpd:=HPD.out
     rw [HTK.out] at hpd
     have hm4:Mod (fun i=>i=d) wr (wr.setCell (aD d 4) (.slice none 0 0)):=(Mod.refl _ _).own_cell _ _
     refine ⟨.slice none 0 0,by rw [HP1.out];rfl,?_,.inr rfl,HMD.out.then (Fdg.of_d hm4)⟩
     refine hpd.cleared hm4 _ ?_ HO.out (by rw [HP1.out]) (by rw [HP1.out]) (by rw [HP1.out]) (by rw [HP1.out]) (by rw [HP1.out])
     rw [HP1.out]
     exact zae 4 hpd.head _ rfl
end Go.Proofs.YtdbpdhlecgoclaaGreatDoor
