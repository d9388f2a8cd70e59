/-
  The contracts of the document's MayOp and May of entries.
-/
import Derived.Test.YtdbpdhlecgoclaaGreatDoorP00
import Derived.Test.YtdbpdhlecgoclaaGreatDoorP06
import Derived.Test.YtdbpdhlecgoclaaGreatDoorP10
import Derived.Test.YtdbpdhlecgoclaaGreatDoorP11
import Derived.Test.YtdbpdhlecgoclaaGreatDoorP20
import Derived.Test.YtdbpdhlecgoclaaGreatDoorP26
import Derived.Deep.DeepCutAuto
import Derived.RegionTactic
namespace Go.Proofs.YtdbpdhlecgoclaaGreatDoor
set_option maxRecDepth 100000
set_option maxHeartbeats 6400000
open Go Go.RowKit
theorem znM (k:Nat) (key old val:ByteArray) (h:¬((key.size:Int)<1)∧¬(8<(key.size:Int))∧¬(16<(old.size:Int))∧¬(16<(val.size:Int))) :
 opOk k key old val=if k=1∨k=3 then decide (old.size=0) && decide (val.size=0) else if k=2 then decide (old.size=0) else decide (k=4):=by
 rw [Bool.eq_iff_iff,zcH]
 by_cases h1:k=1∨k=3
 ·rw [if_pos h1,Bool.and_eq_true,decide_eq_true_iff,decide_eq_true_iff]
  omega
 ·rw [if_neg h1]
  by_cases h2:k=2
  ·rw [if_pos h2,decide_eq_true_iff]
   omega
  ·rw [if_neg h2,decide_eq_true_iff]
   omega
theorem zrz (k:Nat) (key old val:ByteArray) (h:((key.size:Int)<1)∨(8<(key.size:Int))∨(16<(old.size:Int))∨(16<(val.size:Int))):opOk k key old val=false:=by
 rw [Bool.eq_false_iff]
 intro hk
 have:=zcH.1 hk
 omega
theorem zmG (k:Nat) (key old val:ByteArray) (w:World) :
 (cL 131 #[.agg #[k,key,old,val]] w (.bool (opOk k key old val)):Prop):=by
 have HE:=qj ((Ext.refl w).alloc (.cells #[k,key,old,val] 40))
 have fin:∀x y:Bool,x=y→Ending.returned (Value.bool x)=.returned (.bool y):=fun x y h=>by rw [h]
 obtain ⟨r,hr⟩:∃r,opOk k key old val=r:=⟨_,rfl⟩
 rw [hr]
 by_cases hf:((key.size:Int)<1)∨(8<(key.size:Int))∨(16<(old.size:Int))∨(16<(val.size:Int))
 ·have HF:Hid (r=false):=qj (by rw [←hr];exact zrz k key old val hf)
  clear hr
  by_cases q1:(key.size:Int)<1
  ·clear hf
   go_enter Tryz.func131,Tryz.ntmps131
   go_wp2_with fail
   go_ret
   exact ⟨fin _ _ HF.out.symm,HE.out⟩
  by_cases q2:8<(key.size:Int)
  ·clear hf
   go_enter Tryz.func131,Tryz.ntmps131
   go_wp2_with fail
   go_ret
   exact ⟨fin _ _ HF.out.symm,HE.out⟩
  by_cases q3:16<(old.size:Int)
  ·clear hf
   go_enter Tryz.func131,Tryz.ntmps131
   go_wp2_with fail
   go_ret
   exact ⟨fin _ _ HF.out.symm,HE.out⟩
  have q4:16<(val.size:Int):=by omega
  clear hf
  go_enter Tryz.func131,Tryz.ntmps131
  go_wp2_with fail
  go_ret
  exact ⟨fin _ _ HF.out.symm,HE.out⟩
 ·have hp:=znM k key old val (by omega)
  rw [hr] at hp
  obtain ⟨q1,q2,q3,q4⟩:¬((key.size:Int)<1)∧¬(8<(key.size:Int))∧¬(16<(old.size:Int))∧¬(16<(val.size:Int)):=by omega
  clear hf hr
  have eo:=zeE old
  have ev:=zeE val
  by_cases h1:k=1
  ·subst h1
   rw [if_pos (.inl rfl),←eo,←ev] at hp
   have HP:=qj hp
   clear hp eo ev
   cases b1:old.toList.isEmpty <;> cases b2:val.toList.isEmpty
   all_goals
    rw [b1,b2] at HP
    go_enter Tryz.func131,Tryz.ntmps131
    go_wp2_with fail
    go_ret
    exact ⟨fin _ _ HP.out.symm,HE.out⟩
  by_cases h3:k=3
  ·subst h3
   rw [if_pos (.inr rfl),←eo,←ev] at hp
   have HP:=qj hp
   clear hp eo ev h1
   cases b1:old.toList.isEmpty <;> cases b2:val.toList.isEmpty
   all_goals
    rw [b1,b2] at HP
    go_enter Tryz.func131,Tryz.ntmps131
    go_wp2_with fail
    go_ret
    exact ⟨fin _ _ HP.out.symm,HE.out⟩
  rw [if_neg (by omega)] at hp
  by_cases h2:k=2
  ·subst h2
   rw [if_pos rfl,←eo] at hp
   have HP:=qj hp
   clear hp eo ev h1 h3
   cases b1:old.toList.isEmpty
   all_goals
    rw [b1] at HP
    go_enter Tryz.func131,Tryz.ntmps131
    go_wp2_with fail
    go_ret
    exact ⟨fin _ _ HP.out.symm,HE.out⟩
  rw [if_neg h2] at hp
  have e1:((k:Int) == 1)=false:=by rw [beq_eq_false_iff_ne];omega
  have e2:((k:Int) == 2)=false:=by rw [beq_eq_false_iff_ne];omega
  have e3:((k:Int) == 3)=false:=by rw [beq_eq_false_iff_ne];omega
  by_cases h4:k=4
  ·subst h4
   have HP:Hid (r=true):=qj (by rw [hp];rfl)
   clear hp eo ev h1 h2 h3 e1 e2 e3
   go_enter Tryz.func131,Tryz.ntmps131
   go_wp2_with fail
   go_ret
   exact ⟨fin _ _ HP.out.symm,HE.out⟩
  ·have e4:((k:Int) == 4)=false:=by rw [beq_eq_false_iff_ne];omega
   have HP:Hid (r=false):=qj (by rw [hp];exact decide_eq_false h4)
   clear hp eo ev h1 h2 h3 h4
   go_enter Tryz.func131,Tryz.ntmps131
   go_wp2_with fail
   go_ret
   exact ⟨fin _ _ HP.out.symm,HE.out⟩
theorem zcc (k:Nat) (cl sq:Int) (ok:Nat) (key old val:ByteArray) (w:World) :
 (cL 77 #[.agg #[k,cl,sq,ok,key,old,val]] w (.bool (enOk ⟨k,cl,sq,ok,key,old,val⟩)):Prop):=by
 have HE:=qj ((Ext.refl w).alloc (.cells #[k,cl,sq,ok,key,old,val] 42))
 have HT:=qj (heap_alloc_new w (.cells #[k,cl,sq,ok,key,old,val] 42))
 have fin:∀x y:Bool,x=y→Ending.returned (Value.bool x)=.returned (.bool y):=fun x y h=>by rw [h]
 have hz:=zkg ok key old val
 have hg:Tryz.prog.eqGuardType Tryz.prog.depth 40=false:=by kernel_rfl
 obtain ⟨z,hzz⟩:∃z,decide (ok=0∧key.size=0∧old.size=0∧val.size=0)=z:=⟨_,rfl⟩
 rw [hzz] at hz
 obtain ⟨q,hq⟩:∃q,enOk ⟨k,cl,sq,ok,key,old,val⟩=q:=⟨_,rfl⟩
 rw [hq]
 by_cases h1:k=1
 ·subst h1
  have hc:q=((cl == 0) && ((sq == 0) && z)):=by
   rw [←hq,←hzz,Bool.eq_iff_iff,zcS,Bool.and_eq_true,Bool.and_eq_true,beq_iff_eq,beq_iff_eq,decide_eq_true_iff]
   dsimp only
   omega
  have HC:=qj hc
  clear hc hq hzz
  cases b1:(cl == 0) <;> cases b2:(sq == 0)
  all_goals
   rw [b1,b2] at HC
   go_enter Tryz.func77,Tryz.ntmps77
   go_wp2_with fail
   go_ret
   exact ⟨fin _ _ HC.out.symm,HE.out⟩
 have e1:((k:Int) == 1)=false:=by rw [beq_eq_false_iff_ne];omega
 by_cases h2:k=2
 ·subst h2
  have HC:=qj (zkP cl sq ok key old val)
  rw [hq] at HC
  clear hq hzz h1 e1
  have hcase:(decide (0≤cl)=false)∨(decide (0≤cl)=true∧decide (cl≤3)=false)∨(decide (0≤cl)=true∧decide (cl≤3)=true∧decide (1≤sq)=false)∨(decide (0≤cl)=true∧decide (cl≤3)=true∧decide (1≤sq)=true∧decide (sq≤1099511627776)=false)∨(decide (0≤cl)=true∧decide (cl≤3)=true∧decide (1≤sq)=true∧decide (sq≤1099511627776)=true):=by
   cases decide (0≤cl) <;> cases decide (cl≤3) <;> cases decide (1≤sq) <;> cases decide (sq≤1099511627776) <;> simp
  cases b1:(cl == 0) <;> cases b2:(sq == 0) <;> rcases hcase with c1 | ⟨c1,c2⟩ | ⟨c1,c2,d1⟩ | ⟨c1,c2,d1,d2⟩ | ⟨c1,c2,d1,d2⟩
  all_goals first
   | (rw [c1,c2,d1,d2] at HC
      go_enter Tryz.func77,Tryz.ntmps77
      go_wp2_with fail
      first
       | (go_ret;exact ⟨fin _ _ (by rw [HC.out];rfl),HE.out⟩)
       | (refine (zmG _ _ _ _ _).mono ?_
          rintro e w2 ⟨rfl,hx⟩
          have hc:=cell_of_row w2 w.heap.size 3 _ _ _ (zab HT.out hx)
          have HE:=qj (HE.out.trans hx)
          clear hx
          cases b3:opOk ok key old val
          all_goals
           rw [b3] at HC
           go_wp2_with fail
           go_ret
           refine ⟨fin _ _ ?_,HE.out⟩
           rw [HC.out]
           first
            | rfl
            | (simp only [Bool.true_and];exact zgr _)))
   | (have HF:Hid (q=false):=qj (by rw [HC.out];first | (rw [c1,c2,d1];simp;done) | (rw [c1,c2];simp;done) | (rw [c1];simp;done))
      go_enter Tryz.func77,Tryz.ntmps77
      go_wp2_with fail
      go_ret
      exact ⟨fin _ _ HF.out.symm,HE.out⟩)
 ·have e2:((k:Int) == 2)=false:=by rw [beq_eq_false_iff_ne];omega
  have HB:Hid (q=false):=qj (by rw [←hq];exact zdE (by dsimp only;omega))
  clear h1 h2 hq hzz
  cases b1:(cl == 0) <;> cases b2:(sq == 0)
  all_goals
   go_enter Tryz.func77,Tryz.ntmps77
   go_wp2_with fail
   go_ret
   exact ⟨fin _ _ HB.out.symm,HE.out⟩
theorem zsX (s:ByteArray) (k:Nat) (h:k<s.size):(bl s).take (k+1)=(bl s).take k++[s[k].toNat]:=by
 have e:(bl s)[k]?=some s[k].toNat:=by
  unfold bl
  rw [List.getElem?_map,Array.getElem?_toList,Array.getElem?_eq_getElem h]
  rfl
 rw [List.take_add_one,e]
 rfl
theorem zma {w wr w1:World} {s:ByteArray} {k:Nat} {v v1:Value} (hk:k<s.size) (hown:wr.ownsRow w.heap.size 5 1 v (k+1) (vb (s.size :: (bl s).take k))) (hbel:Ext w wr)
 (hown1:w1.ownsRow w.heap.size 5 1 v1 (k+1+1) (vb (s.size :: (bl s).take k)++[.int .u8 (s[k].toNat:Int)])) (hg:(wr.alloc (.cells #[.int .u8 (s[k].toNat:Int)] 5)).grownBy w1 v.ownBlock) :
 w1.ownsRow w.heap.size 5 1 v1 (k+1+1) (vb (s.size :: (bl s).take (k+1)))∧Ext w w1:=by
 refine ⟨?_,?_⟩
 ·rw [zsX s k hk]
  have e:vb (s.size :: ((bl s).take k++[s[k].toNat]))=vb (s.size :: (bl s).take k)++[.int .u8 (s[k].toNat:Int)]:=by simp [vb]
  rw [e]
  exact hown1
 ·refine Below.grown (Ext.alloc hbel _) hg (Nat.le_trans (Ext.size hbel) (by simp)) ?_
  intro g hg'
  exact (hown.lt g hg').1
theorem zfV (s:ByteArray) (w:World) (hs:s.size≤255) :
 Calls Tryz.prog 133 #[s] w fun e w'=>∃A' c',e=.returned (.tuple #[.slice A' (s.size+1) c',.int .i64 0])∧By w' A' (s.size+1) c' (s.size :: bl s)∧Ext w w':=by
 obtain ⟨i0,hi,hz0,hz1,hz2⟩:=info_parts zay
 go_enter Tryz.func133,Tryz.ntmps133
 go_wp2_with fail
 go_loopw [4,5] (fun v i wr=>∃k:Nat,k≤s.size∧i=.int .i64 k∧Hid (wr.ownsRow w.heap.size 5 1 v (k+1) (vb (s.size :: (bl s).take k)))∧Hid (Ext w wr)) (fun _ i _=>s.size-(intOf i).toNat)
 case atStart =>
  refine ⟨0,Nat.zero_le _,rfl,qj ?_,qj ((Ext.refl w).alloc _)⟩
  have h:=World.ownsRow_lit (base:=w.heap.size) (e:=5) (size:=1) w #[Value.int .u8 (s.size:Int)] 1 (Nat.le_refl _) (by unfold maxLen;omega) rfl
  simpa [vb] using h
 case round =>
  obtain ⟨k,hk,rfl,HO,HX⟩:=hrel
  have hsz:=HX.out.size
  by_cases hlt:k<s.size
  ·have hby:=(s[k]).toNat_lt
   go_wp2_with (at_builtin;refine wpList_append_own _ rfl _ _ 45 rfl w.heap.size 5 i0 (.int .u8 0) 1 1 Tryz.underlying45 hi hz0 hz1 hz2 rfl (by decide) _ _ _ rfl (HO.out.alloc _) ⟨wr.heap.size,0,none⟩ 1 1 [.int .u8 (s[k].toNat:Int)] rfl rfl ?c1 ?c2 ?c3 ?c4 ?c5 ?_)
   case c1 =>
    intro j u hj
    match j,hj with
    | 0,hj=>simp at hj;subst hj;simp [Addr.add]
   case c2=>intro u hu;simp at hu;subst hu;rfl
   case c3=>unfold maxLen;omega
   case c4=>omega
   case c5=>simp;omega
   intro v1 w1 hown hg _
   have R:=zma hlt HO.out HX.out hown hg
   have HO1:=qj R.1
   have HX1:=qj R.2
   clear hown hg R
   go_wp2_with fail
   go_roundw
   case rel=>exact ⟨k+1,by omega,by go_num,HO1,HX1⟩
   case measure=>simp [intOf];omega
  ·have e0:(bl s).take k=bl s:=List.take_of_length_le (by rw [zdo];omega)
   have HK:Hid (k=s.size):=qj (by omega)
   have h1:=HO.out
   rw [e0,HK.out] at h1
   obtain ⟨A',c',hv,_,_⟩:=zbK h1
   subst hv
   have HO3:=qj h1
   clear h1 e0
   go_wp2_with fail
   go_ret2
   exact ⟨A',c',rfl,Bs.of_own HO3.out (by
    intro b hb
    simp only [List.mem_cons] at hb
    rcases hb with rfl | hb
    ·omega
    ·exact zqG s b hb),HX.out⟩
theorem zcr (x y:Int) (w:World) :
 Calls Tryz.prog 76 #[.agg #[x,y]] w fun r w'=>r=.returned (.bool (balE x y))∧Ext w w':=by
 have HE:=qj ((Ext.refl w).alloc (.cells #[x,y] 38))
 have hb:balE x y=(decide (1≤x) && (decide (x≤1099511627776) && (decide (0≤y) && decide (y≤6)))):=by
  rw [Bool.eq_iff_iff,zbr]
  simp
 rw [hb]
 clear hb
 cases h1:decide (1≤x) <;> cases h2:decide (x≤1099511627776) <;> cases h3:decide (0≤y) <;> cases h4:decide (y≤6)
 all_goals
  go_enter Tryz.func76,Tryz.ntmps76
  go_wp2_with fail
  go_ret
  exact ⟨rfl,HE.out⟩
structure AppS (w0 w:World) (A:Option Addr) (n c:Nat) (l:List Nat):Prop where
 own:w.ownsRow w0.heap.size 5 1 (.slice A n c) n (vb l)
 ext:Ext w0 w
 lt:∀b∈l,b<256
theorem AppS.more {w0 w w':World} {A:Option Addr} {n c:Nat} {l:List Nat} (h:AppS w0 w A n c l) (k:Ext w w'):AppS w0 w' A n c l:=by
 refine ⟨⟨h.own.1,?_⟩,h.ext.trans k,h.lt⟩
 rcases h.own.2 with h2 | ⟨g,cap,cur,h2,h3,h4,h5⟩
 ·exact .inl h2
 ·exact .inr ⟨g,cap,cur,h2,h3,zab h4 k,h5⟩
theorem AppS.by_ {w0 w:World} {A:Option Addr} {n c:Nat} {l:List Nat} (h:AppS w0 w A n c l):By w A n c l:=Bs.of_own h.own h.lt
theorem AppS.next {w0 w w2:World} {A:Option Addr} {n c m:Nat} {l l2:List Nat} {v:Value} (h:AppS w0 w A n c l) (h2:w2.ownsRow w0.heap.size 5 1 v m (vb l++vb l2)) (hg:w.grownBy w2 (Value.slice A n c).ownBlock) (hb:∀b∈l2,b<256) :
 ∃A' c',v=.slice A' m c'∧AppS w0 w2 A' m c' (l++l2)∧Mod (fun i=>(Value.slice A n c).ownBlock=some i) w w2:=by
 obtain ⟨hx,A',c',rfl,hb',ho⟩:=zbL h.ext h.own hg h2 h.lt hb
 refine ⟨A',c',rfl,⟨ho,hx,?_⟩,?_⟩
 ·intro b hb0
  rcases List.mem_append.1 hb0 with h0 | h0
  ·exact h.lt b h0
  ·exact hb b h0
 ·exact (Mod.refl (fun i=>(Value.slice A n c).ownBlock=some i) w).grown hg fun k hk=>.inl hk
theorem AppS.off {w0 w:World} {A:Option Addr} {n c g:Nat} {l:List Nat} {cs:Array Value} {t:TypeId} {fr:Nat × Nat} (h:AppS w0 w A n c l) (hr:w.heap[g]?=some (.cells cs t fr)) (ht:t≠5):¬(Value.slice A n c).ownBlock=some g:=by
 intro e
 rcases h.own.2 with ⟨h2,_⟩ | ⟨g',cap,cur,h2,h3,h4,h5⟩
 ·rw [h2] at e
  cases e
 ·rw [h2] at e
  have e:g'=g:=Option.some.inj e
  subst e
  rw [hr] at h4
  injection h4 with h4
  injection h4 with _ h4 _
  exact ht h4
theorem AppS.start {w:World} (l:List Nat) (n:Nat) (hl:l.length=n) (hb:∀b∈l,b<256) (hm:l.length≤1000) (cs:Array Value) (hcs:cs=(vb l).toArray):AppS w (w.alloc (.cells cs 5)) (some ⟨w.heap.size,0,none⟩) n n l:=by
 subst hcs
 subst hl
 have h:=World.ownsRow_lit (base:=w.heap.size) (e:=5) (size:=1) w (vb l).toArray l.length (Nat.le_refl _) (by unfold maxLen;omega) (by simp [zag])
 exact ⟨by simpa using h,(Ext.refl w).alloc _,hb⟩
theorem zmY (k:Nat) (cl sq:Int) (ok:Nat) (key old val:ByteArray) (w:World) (hok:ok<256) :
 Calls Tryz.prog 79 #[.agg #[k,cl,sq,ok,key,old,val]] w fun e w'=>∃A' c',e=.returned (.tuple #[.slice A' (eL ⟨k,cl,sq,ok,key,old,val⟩).length c',.int .i64 (eR ⟨k,cl,sq,ok,key,old,val⟩)])∧By w' A' (eL ⟨k,cl,sq,ok,key,old,val⟩).length c' (eL ⟨k,cl,sq,ok,key,old,val⟩)∧Ext w w':=by
 obtain ⟨i0,hi,hz0,hz1,hz2⟩:=info_parts zay
 have hx:=(Ext.refl w).alloc (.cells #[k,cl,sq,ok,key,old,val] 42)
 have HT:=qj (heap_alloc_new w (.cells #[k,cl,sq,ok,key,old,val] 42))
 have HE:=qj hx
 clear hx
 cases hk:enOk ⟨k,cl,sq,ok,key,old,val⟩ with
 | false =>
  rw [zrm hk,zra hk]
  have HK:=qj hk
  clear hk
  go_enter Tryz.func79,Tryz.ntmps79
  go_wp2_with fail
  refine (zcc _ _ _ _ _ _ _ _).mono ?_
  rw [HK.out]
  rintro e w1 ⟨rfl,hx⟩
  have HE:=qj (HE.out.trans hx)
  clear hx
  go_wp2_with fail
  go_ret2
  exact ⟨none,0,rfl,By.nil_ _,HE.out⟩
 | true =>
  rw [zjo hk,zjV hk]
  have HK:=qj hk
  rcases znB hk with ⟨h1,hz⟩ | ⟨h2,p1,p2,p3,p4,p5,p6⟩
  ·dsimp only at h1
   subst h1
   have hl:enL ⟨1,cl,sq,ok,key,old,val⟩=[1]:=if_pos rfl
   rw [hl]
   clear hk hl hz
   go_enter Tryz.func79,Tryz.ntmps79
   go_wp2_with fail
   refine (zcc _ _ _ _ _ _ _ _).mono ?_
   rw [HK.out]
   rintro e w1 ⟨rfl,hx⟩
   obtain ⟨i0,_⟩:=zaf (zab HT.out hx)
   have HE:=qj (HE.out.trans hx)
   clear hx
   go_wp2_with fail
   go_ret2
   exact ⟨_,_,rfl,By.lit w1 [1] 5 (by simp) (by simp) _ rfl,HE.out.alloc _⟩
  ·dsimp only at h2 p1 p2 p3 p4 p5 p6
   subst h2
   obtain ⟨cn,rfl⟩:=Int.eq_ofNat_of_zero_le p1
   obtain ⟨sn,rfl⟩:=Int.eq_ofNat_of_zero_le (show 0≤sq by omega)
   have HLN:Hid (enL ⟨2,(cn:Int),(sn:Int),ok,key,old,val⟩=[2,cn]++digs 6 sn++[ok]++tx key++tx old++tx val):=qj (by
    unfold enL
    rw [if_neg (by simp)]
    dsimp only
    rw [Int.toNat_natCast,Int.toNat_natCast])
   have HN:Hid ((enL ⟨2,(cn:Int),(sn:Int),ok,key,old,val⟩).length=9+(key.size+1)+(old.size+1)+(val.size+1)):=qj (by
    rw [HLN.out]
    simp only [List.length_append,List.length_cons,List.length_nil,zaB,zgi]
    omega)
   have HF6:Hid (sn≤1099511627776):=qj (by omega)
   have HS:Hid (key.size≤255∧old.size≤255∧val.size≤255∧ok<256∧cn<256):=qj ⟨by omega,by omega,by omega,hok,by omega⟩
   have hcn:cn<256:=by omega
   clear hk p1 p2 p3 p4 p5 p6 hok
   go_enter Tryz.func79,Tryz.ntmps79
   go_wp2_with fail
   refine (zcc _ _ _ _ _ _ _ _).mono ?_
   rw [HK.out]
   rintro e w1 ⟨rfl,hx⟩
   obtain ⟨j0,j1,j2,j3,j4,j5,j6⟩:=zaf (zab HT.out hx)
   have HT:=qj (zab HT.out hx)
   have hgw:w.heap.size<w1.heap.size:=(Array.getElem?_eq_some_iff.1 HT.out).1
   have HE:=qj (HE.out.trans hx)
   clear hx
   go_upto_region 6 with (fail)
   have HA:=qj (AppS.start (w:=w1) [2,cn] 2 rfl (by simp;omega) (by simp) #[.int .u8 2,cn] rfl)
   have HT:=qj (zab HT.out ((Ext.refl w1).alloc (.cells #[.int .u8 2,cn] 5)))
   clear j0 j1 j2 j3 j4 j5 j6
   generalize (w1.alloc (.cells #[.int .u8 2,cn] 5))=w2 at *
   obtain ⟨_,_,j2,_⟩:=zaf HT.out
   go_wp2_with fail
   refine (zcI 6 sn _ (zdZ HF6.out)).mono ?_
   rintro r w3 ⟨A2,k2,rfl,hown,hx⟩
   have hx:Ext w2 w3:=hx
   have HB2:Hid (By w3 A2 6 k2 (digs 6 sn)):=qj (Bs.of_own hown (zaV 6 sn))
   have HA:=qj (HA.out.more hx)
   have HT:=qj (zab HT.out hx)
   clear hown hx j2
   go_wp2_with (at_builtin;refine zak rfl _ _ 45 rfl w1.heap.size 5 i0 Tryz.underlying45 hi hz0 hz1 hz2 _ 2 (vb [2,cn]) rfl HA.out.own _ 6 _ (digs 6 sn) rfl HB2.out (by have:=HS.out;omega) HA.out.ext.size ?_)
   intro v4 w4 hown hg
   obtain ⟨A4,c4,rfl,ha,hm⟩:=HA.out.next hown hg (zaV 6 sn)
   have HT:=qj (zah HT.out hm (HA.out.off HT.out (by decide)))
   have HA:=qj ha
   clear hown hg ha hm HB2
   obtain ⟨_,_,_,j3,_⟩:=zaf HT.out
   have hx:=(Ext.refl w4).alloc (.cells #[ok] 5)
   have HA:=qj (HA.out.more hx)
   have HT:=qj (zab HT.out hx)
   have HLIT:=qj (By.lit w4 [ok] 5 (by simp;exact HS.out.2.2.2.1) (by simp) (#[.int .u8 ok]) rfl)
   clear hx
   go_wp2_with (at_builtin;refine zak rfl _ _ 45 rfl w1.heap.size 5 i0 Tryz.underlying45 hi hz0 hz1 hz2 _ 8 (vb ([2,cn]++digs 6 sn)) rfl HA.out.own _ 1 _ [ok] rfl HLIT.out (by have:=HS.out;omega) HA.out.ext.size ?_)
   intro v5 w5 hown hg
   obtain ⟨A5,c5,rfl,ha,hm⟩:=HA.out.next hown hg (by simp;exact HS.out.2.2.2.1)
   have HT:=qj (zah HT.out hm (HA.out.off HT.out (by decide)))
   have HA:=qj ha
   clear hown hg ha hm HLIT j3
   obtain ⟨_,_,_,_,j4,j5,j6⟩:=zaf HT.out
   go_upto_region 10 with (fail)
   have hx:=(Ext.refl w5).alloc (.cells #[key,old,val] 9)
   have HR:=qj (heap_alloc_new w5 (.cells #[key,old,val] 9))
   have HA:=qj (HA.out.more hx)
   clear hx j4 j5 j6
   generalize (w5.alloc (.cells #[key,old,val] 9))=w6 at *
   generalize w5.heap.size=g5 at *
   go_wp2_with fail
   refine wp_loop_rounds 4 ?_
   rw [rounds_succ]
   have hc:=cell_of_row _ g5 0 _ _ _ HR.out
   go_wp2_with fail
   refine (zfV key _ (by have:=HS.out;omega)).mono ?_
   rintro r v10 ⟨B10,k10,rfl,hb,hx⟩
   have HB2:Hid (By v10 B10 _ k10 (tx key)):=qj hb
   have HA:=qj (HA.out.more hx)
   have HR:=qj (zab HR.out hx)
   clear hb hx hc
   go_wp2_with (at_builtin;refine zak rfl _ _ 45 rfl w1.heap.size 5 i0 Tryz.underlying45 hi hz0 hz1 hz2 _ 9 (vb ([2,cn]++digs 6 sn++[ok])) rfl HA.out.own _ (key.size+1) _ (tx key) rfl HB2.out (by have:=HS.out;omega) HA.out.ext.size ?_)
   intro v11 w12 hown hg
   obtain ⟨C12,c12,rfl,ha,hm⟩:=HA.out.next hown hg HB2.out.rd.lt
   have HR:=qj (zah HR.out hm (HA.out.off HR.out (by decide)))
   have HA:=qj ha
   clear hown hg ha hm HB2
   go_wp2_with fail
   rw [rounds_succ]
   have hc:=cell_of_row _ g5 1 _ _ _ HR.out
   go_wp2_with fail
   refine (zfV old _ (by have:=HS.out;omega)).mono ?_
   rintro r v20 ⟨B20,k20,rfl,hb,hx⟩
   have HB2:Hid (By v20 B20 _ k20 (tx old)):=qj hb
   have HA:=qj (HA.out.more hx)
   have HR:=qj (zab HR.out hx)
   clear hb hx hc
   go_wp2_with (at_builtin;refine zak rfl _ _ 45 rfl w1.heap.size 5 i0 Tryz.underlying45 hi hz0 hz1 hz2 _ (9+(key.size+1)) (vb ([2,cn]++digs 6 sn++[ok]++tx key)) rfl HA.out.own _ (old.size+1) _ (tx old) rfl HB2.out (by have:=HS.out;omega) HA.out.ext.size ?_)
   intro v21 w22 hown hg
   obtain ⟨C22,c22,rfl,ha,hm⟩:=HA.out.next hown hg HB2.out.rd.lt
   have HR:=qj (zah HR.out hm (HA.out.off HR.out (by decide)))
   have HA:=qj ha
   clear hown hg ha hm HB2
   go_wp2_with fail
   rw [rounds_succ]
   have hc:=cell_of_row _ g5 2 _ _ _ HR.out
   go_wp2_with fail
   refine (zfV val _ (by have:=HS.out;omega)).mono ?_
   rintro r v30 ⟨B30,k30,rfl,hb,hx⟩
   have HB2:Hid (By v30 B30 _ k30 (tx val)):=qj hb
   have HA:=qj (HA.out.more hx)
   have HR:=qj (zab HR.out hx)
   clear hb hx hc
   go_wp2_with (at_builtin;refine zak rfl _ _ 45 rfl w1.heap.size 5 i0 Tryz.underlying45 hi hz0 hz1 hz2 _ (9+(key.size+1)+(old.size+1)) (vb ([2,cn]++digs 6 sn++[ok]++tx key++tx old)) rfl HA.out.own _ (val.size+1) _ (tx val) rfl HB2.out (by have:=HS.out;omega) HA.out.ext.size ?_)
   intro v31 w32 hown hg
   obtain ⟨C32,c32,rfl,ha,hm⟩:=HA.out.next hown hg HB2.out.rd.lt
   have HR:=qj (zah HR.out hm (HA.out.off HR.out (by decide)))
   have HA:=qj ha
   clear hown hg ha hm HB2
   go_wp2_with fail
   rw [rounds_succ]
   go_wp2_with fail
   go_ret2
   refine ⟨_,_,zet _ _ HN.out.symm,?_,HE.out.trans HA.out.ext⟩
   rw [HN.out,HLN.out]
   exact HA.out.by_
theorem zkd (x y h:Nat) (w:World) (hr:recB x y h=true) :
 Calls Tryz.prog 42 #[.agg #[.int .i64 x,.int .i64 y],.int .i64 h] w fun e w'=>∃A' c',e=.returned (.tuple #[.slice A' 8 c',.int .i64 0])∧By w' A' 8 c' (recL x y h)∧Ext w w':=by
 obtain ⟨i0,hi,hz0,hz1,hz2⟩:=info_parts zay
 have hrr:=zcm.1 hr
 have hE:=(Ext.refl w).alloc (.cells #[.int .i64 x,.int .i64 y] 38)
 have HR:=qj (heap_alloc_new w (.cells #[.int .i64 x,.int .i64 y] 38))
 have HBL:=qj (fun V=>zcr (x:Int) (y:Int) V)
 rw [zbr.2 hrr.1] at HBL
 have HB:=qj (show x≤1099511627776∧y<256∧h<256 by omega)
 have HE:=qj hE
 have h1:decide ((h:Int)<0)=false:=decide_eq_false (by omega)
 have h2:decide (1<(h:Int))=false:=decide_eq_false (by omega)
 have HRL:Hid (recL (x:Int) (y:Int) (h:Int)=digs 6 x++[y,h]):=qj (by unfold recL;rw [Int.toNat_natCast,Int.toNat_natCast,Int.toNat_natCast,List.append_assoc];rfl)
 have hyn:y<256:=HB.out.2.1
 have hhn:h<256:=HB.out.2.2
 clear hrr hr hE
 go_enter Tryz.func42,Tryz.ntmps42
 go_upto_region 1 with (fail)
 generalize (w.alloc (.cells #[.int .i64 x,.int .i64 y] 38))=w0 at *
 generalize hg:w.heap.size=g at *
 have HG:=qj hg
 clear hg
 have b0:=cell_of_row w0 g 0 _ _ _ HR.out
 have b1:=cell_of_row w0 g 1 _ _ _ HR.out
 go_wp2_with fail
 refine (HBL.out _).mono ?_
 rintro e w1 ⟨rfl,hx⟩
 have HE:=qj (HE.out.trans hx)
 have HR:=qj (zaa hx HR.out)
 clear hx b0 b1
 have b0:=cell_of_row w1 g 0 _ _ _ HR.out
 have b1:=cell_of_row w1 g 1 _ _ _ HR.out
 go_wp2_with fail
 refine (zcI 6 x _ (zdZ HB.out.1)).mono ?_
 rintro r w3 ⟨A3,k3,rfl,hown,hx⟩
 have hx:Ext w1 w3:=hx
 have HA:Hid (AppS w1 w3 A3 6 k3 (digs 6 x)):=qj ⟨hown,hx,zaV 6 x⟩
 have HR:=qj (zaa hx HR.out)
 clear hown hx b0 b1
 have b0:=cell_of_row w3 g 0 _ _ _ HR.out
 have b1:=cell_of_row w3 g 1 _ _ _ HR.out
 have hx:=(Ext.refl w3).alloc (.cells #[y,h] 5)
 have HA:=qj (HA.out.more hx)
 have HLIT:=qj (By.lit w3 [y,h] 5 (by have:=HB.out;intro b hb;simp at hb;omega) (by simp) (#[.int .u8 y,.int .u8 h]) rfl)
 have hsz:=HA.out.ext.size
 clear hx
 go_wp2_with (at_builtin;refine zak rfl _ _ 45 rfl w1.heap.size 5 i0 Tryz.underlying45 hi hz0 hz1 hz2 _ 6 (vb (digs 6 x)) rfl HA.out.own _ 2 _ [y,h] rfl HLIT.out (by omega) hsz ?_)
 intro v4 w4 hown hg
 obtain ⟨A4,c4,rfl,ha,hm⟩:=HA.out.next hown hg HLIT.out.rd.lt
 have HA:=qj ha
 clear hown hg ha hm HLIT b0 b1 hsz
 go_wp2_with fail
 go_ret2
 refine ⟨_,_,rfl,?_,HE.out.trans HA.out.ext⟩
 rw [HRL.out]
 exact HA.out.by_
theorem zlG (x y h:Int) (w:World) (hr:recB x y h=false) :
 (cL 42 #[.agg #[x,y],h] w (.tuple Zk.o):Prop):=by
 have HE:=qj ((Ext.refl w).alloc (.cells #[x,y] 38))
 have HBL:=qj (fun V=>zcr x y V)
 cases hb:balE x y with
 | false =>
  rw [hb] at HBL
  clear hb hr
  go_enter Tryz.func42,Tryz.ntmps42
  go_wp2_with fail
  refine (HBL.out _).mono ?_
  rintro e w1 ⟨rfl,hx⟩
  have HE:=qj (HE.out.trans hx)
  clear hx
  go_wp2_with fail
  go_ret2
  exact ⟨rfl,HE.out⟩
 | true =>
  rw [hb] at HBL
  have hh:h<0∨(¬h<0∧1<h):=by
   unfold recB at hr
   rw [hb,Bool.true_and,decide_eq_false_iff_not] at hr
   omega
  clear hb hr
  rcases hh with hh | ⟨h0,hh⟩
  ·have h1:decide (h<0)=true:=decide_eq_true hh
   clear hh
   go_enter Tryz.func42,Tryz.ntmps42
   go_wp2_with fail
   refine (HBL.out _).mono ?_
   rintro e w1 ⟨rfl,hx⟩
   have HE:=qj (HE.out.trans hx)
   clear hx
   go_wp2_with fail
   go_ret2
   exact ⟨rfl,HE.out⟩
  ·have h1:decide (h<0)=false:=decide_eq_false h0
   have h2:decide (1<h)=true:=decide_eq_true hh
   clear hh h0
   go_enter Tryz.func42,Tryz.ntmps42
   go_wp2_with fail
   refine (HBL.out _).mono ?_
   rintro e w1 ⟨rfl,hx⟩
   have HE:=qj (HE.out.trans hx)
   clear hx
   go_wp2_with fail
   go_ret2
   exact ⟨rfl,HE.out⟩
theorem zmV (x y h:Int) (w:World) :
 Calls Tryz.prog 42 #[.agg #[x,y],h] w fun e w'=>∃A' c',e=.returned (.tuple #[.slice A' (rcL x y h).length c',.int .i64 (rcE x y h)])∧By w' A' (rcL x y h).length c' (rcL x y h)∧Ext w w':=by
 cases hr:recB x y h with
 | true =>
  rw [zjr hr,ztb hr,zcZ]
  have hrr:=zcm.1 hr
  obtain ⟨a,rfl⟩:=Int.eq_ofNat_of_zero_le (show 0≤x by omega)
  obtain ⟨b,rfl⟩:=Int.eq_ofNat_of_zero_le (show 0≤y by omega)
  obtain ⟨c,rfl⟩:=Int.eq_ofNat_of_zero_le (show 0≤h by omega)
  exact zkd a b c w hr
 | false =>
  rw [zuu hr,zuP hr]
  exact (zlG x y h w hr).mono fun e w' ⟨he,hx⟩=>⟨none,0,he,By.none_ w',hx⟩
theorem zdU {w:World} {g:Nat} {x y:Int} {t:TypeId} (h:w.heap[g]?=some (.cells #[x,y] t (0,0))) :
 (w.cell? (aD g 0)=some (.int .i64 x)∧w.cell? (aD g 1)=some (.int .i64 y))∧w.frozen? (aD g 0)=false∧w.frozen? (aD g 1)=false :=
 ⟨⟨cell_of_row w g 0 _ _ _ h,cell_of_row w g 1 _ _ _ h⟩,frozen_of_row w g 0 _ _ h,frozen_of_row w g 1 _ _ h⟩
theorem znx {w:World} {g:Nat} {x y u v:Int} {t:TypeId} (h:w.heap[g]?=some (.cells #[x,y] t (0,0))) :
 ((w.setCell (aD g 0) u).setCell (aD g 1) v).heap[g]?=some (.cells #[u,v] t (0,0)) :=
 zbG (zbG h u) v
theorem zrA {w:World} {A:Option Addr} {n c k:Nat} {l:List Nat} (h:By w A n c l) (hk:k<n):∃g o x,A=some ⟨g,o,none⟩∧l[k]?=some x∧x<256∧w.cell? (aD g (o+k))=some (.int .u8 ((x:Nat):Int)):=by
 obtain ⟨g,o,x,h1,_,h2,h3,h4⟩:=h.rd.at_ (k:=k) (by rw [h.len];exact hk)
 exact ⟨g,o,x,h1,h2,h3,h4⟩
theorem zll {w:World} {g o n c k x:Nat} {l:List Nat} (h:By w (some ⟨g,o,none⟩) n c l) (hk:l[k]?=some x):w.cell? (aD g (o+k))=some (.int .u8 ((x:Nat):Int))∧x<256:=by
 obtain ⟨g',o',x',h1,_,h2,h3,h4⟩:=h.rd.at_ (k:=k) (List.getElem?_eq_some_iff.1 hk).1
 rw [hk] at h2
 injection h2 with h2
 subst h2
 injection h1 with h1
 injection h1 with h1 h5
 subst h1 h5
 exact ⟨h4,h3⟩
theorem zkw (A:Option Addr) (n c:Nat) (w:World) (hn:n≠8) :
 (cL 81 #[.slice A n c] w (.tuple #[.agg Zk.e,.int .i64 0,.int .i64 90]):Prop):=by
 have hx:=(Ext.refl w).alloc (.cells Zk.e 38)
 have HQ:=qj (heap_alloc_new w (.cells Zk.e 38))
 have HE:=qj hx
 have hne:((n:Int) != 8)=true:=by rw [bne_iff_ne];omega
 obtain ⟨⟨z0,z1⟩,e0,e1⟩:=zdU HQ.out
 clear hx hn
 go_enter Tryz.func81,Tryz.ntmps81
 go_wp2_with fail
 refine bodyPost_ret (v:=.tuple #[.agg Zk.e,.int .i64 0,.int .i64 90]) (by simp [results,Tryz.results81,go_sem]) rfl ⟨rfl,HE.out⟩
theorem ziq (A:Option Addr) (c:Nat) (l:List Nat) (h:Nat) (w:World) (hb:By w A 8 c l) (hh:l[7]?=some h) (h1:1<h) :
 (cL 81 #[.slice A (8:Nat) c] w (.tuple #[.agg Zk.e,.int .i64 0,.int .i64 90]):Prop):=by
 have hx:=(Ext.refl w).alloc (.cells Zk.e 38)
 have HQ:=qj (heap_alloc_new w (.cells Zk.e 38))
 have HE:=qj hx
 obtain ⟨g',o,h',rfl,hh',hh2,c7⟩:=zrA (hb.ext hx) (show 7<8 by omega)
 obtain rfl:h=h':=by rw [hh] at hh';exact Option.some.inj hh'
 have hgt:decide (1<(h:Int))=true:=decide_eq_true (by omega)
 obtain ⟨⟨z0,z1⟩,e0,e1⟩:=zdU HQ.out
 clear hx hb hh hh' h1
 go_enter Tryz.func81,Tryz.ntmps81
 go_wp2_with fail
 refine bodyPost_ret (v:=.tuple #[.agg Zk.e,.int .i64 0,.int .i64 90]) (by simp [results,Tryz.results81,go_sem]) rfl ⟨rfl,HE.out⟩
theorem zin (A:Option Addr) (c:Nat) (l:List Nat) (x y h:Nat) (w:World) (hb:By w A 8 c l) (hxn:num (l.take 6)=x) (hy:l[6]?=some y) (hh:l[7]?=some h) (h1:h≤1) (ans:Value) (hans:ans=if balE (x:Int) (y:Int)=true then .tuple #[.agg #[.int .i64 x,.int .i64 y],.int .i64 h,.int .i64 0] else .tuple #[.agg Zk.e,.int .i64 0,.int .i64 90]) :
 (cL 81 #[.slice A (8:Nat) c] w ans:Prop):=by
 have hx:=(Ext.refl w).alloc (.cells Zk.e 38)
 have HQ:=qj (heap_alloc_new w (.cells Zk.e 38))
 have HE:=qj hx
 have hlen:=hb.len
 have HG:Hid (getS l 0 6=(x,6,0)):=qj (by
  have h:=zfX (l:=l) (x:=6) rfl (by omega)
  rw [hxn] at h
  exact h)
 have HB:=qj (hb.ext hx)
 clear hb hx
 have HY:=qj (And.intro hy hh)
 have HANS:=qj hans
 clear hxn hlen hy hh hans
 go_enter Tryz.func81,Tryz.ntmps81
 go_upto_region 1 with (fail)
 generalize w.alloc (.cells Zk.e 38)=w1 at *
 generalize hg:w.heap.size=g at *
 have HGG:=qj hg
 clear hg
 obtain ⟨g',o,y',rfl,hy',hy2,c6⟩:=zrA HB.out (show 6<8 by omega)
 obtain rfl:y=y':=by rw [HY.out.1] at hy';exact Option.some.inj hy'
 obtain ⟨c7,hh2⟩:=zll HB.out HY.out.2
 have hgt:decide (1<(h:Int))=false:=decide_eq_false (by omega)
 have hyw:IntKind.i64.wrap (y:Int)=(y:Int):=IntWalk.i64_in _ (by omega)
 have hhw:IntKind.i64.wrap (h:Int)=(h:Int):=IntWalk.i64_in _ (by omega)
 have hx:=(Ext.refl w1).alloc (.cells #[.int .i64 x,.int .i64 y] 38)
 have HQ2:=qj (zaa hx HQ.out)
 have HE2:=qj (HE.out.trans hx)
 have HB2:=qj (HB.out.ext hx)
 have H8:=qj (heap_alloc_new w1 (.cells #[.int .i64 x,.int .i64 y] 38))
 clear hx hy' h1
 go_wp2_with fail
 refine (zbT _ l 8 c _ _ _ _ HB.out.len HB.out.rd (by omega)).mono ?_
 rw [HG.out]
 rintro e w' ⟨rfl,rfl⟩
 go_upto_region 5 with (fail)
 generalize (w1.alloc (.cells #[.int .i64 x,.int .i64 y] 38))=W at *
 generalize w1.heap.size=g8 at *
 clear c6 c7
 obtain ⟨⟨b0,b1⟩,_⟩:=zdU H8.out
 go_wp2_with fail
 refine (zcr _ _ _).mono ?_
 rintro e w5 ⟨rfl,hx⟩
 have HQ3:=qj (zaa hx HQ2.out)
 have H9:=qj (zaa hx H8.out)
 have HE3:=qj (HE2.out.trans hx)
 have HB3:=qj (HB2.out.ext hx)
 clear hx b0 b1
 obtain ⟨c7,_⟩:=zll HB3.out HY.out.2
 obtain ⟨⟨z0,z1⟩,e0,e1⟩:=zdU HQ3.out
 obtain ⟨⟨b0,b1⟩,_⟩:=zdU H9.out
 cases hb:balE (x:Int) (y:Int) with
 | false =>
  have HE3:=qj (zaK HE3.out (Nat.le_of_eq HGG.out) [.int .i64 0,.int .i64 0] 0)
  go_wp2_with fail
  have z0:=cell_of_row _ _ 0 _ _ _ (znx (u:=0) (v:=0) HQ3.out)
  have z1:=cell_of_row _ _ 1 _ _ _ (znx (u:=0) (v:=0) HQ3.out)
  refine bodyPost_ret (v:=.tuple #[.agg Zk.e,.int .i64 0,.int .i64 90]) (by simp [results,Tryz.results81,go_sem,z0,z1]) rfl ⟨by rw [HANS.out,hb];rfl,HE3.out⟩
 | true =>
  go_wp2_with fail
  go_region
  go_wp2_with fail
  refine bodyPost_ret (v:=.tuple #[.agg #[.int .i64 x,.int .i64 y],.int .i64 h,.int .i64 0]) ?_ rfl ⟨by rw [HANS.out,hb];rfl,?_⟩
  ·simp [results,Tryz.results81,go_sem,z0,z1]
  ·exact Ext.drew (zaK HE3.out (Nat.le_of_eq HGG.out) [.int .i64 x,.int .i64 y] 0)
theorem zhY (A:Option Addr) (n c:Nat) (l:List Nat) (w:World) (hb:By w A n c l) :
 (cL 81 #[.slice A n c] w (.tuple #[.agg #[.int .i64 ((rcR l).1:Int),.int .i64 ((rcR l).2.1:Int)],.int .i64 ((rcR l).2.2.1:Int),.int .i64 (rcR l).2.2.2]):Prop):=by
 have hl:=hb.len
 by_cases h8:n=8
 ·subst h8
  obtain ⟨y,hy⟩:∃y,l[6]?=some y:=⟨_,List.getElem?_eq_getElem (by omega)⟩
  obtain ⟨h,hh⟩:∃h,l[7]?=some h:=⟨_,List.getElem?_eq_getElem (by omega)⟩
  by_cases h1:1<h
  ·rw [zdi (zij hh h1)]
   exact ziq A c l h w hb hh h1
  ·have hk:=zin A c l _ y h w hb rfl hy hh (by omega) _ rfl
   cases hbal:balE (num (l.take 6):Nat) (y:Nat) with
   | true =>
    rw [hbal] at hk
    rw [zhF (zlz hl hy hh (by omega) hbal)]
    exact hk
   | false =>
    rw [hbal] at hk
    rw [zdi (zlk hy hbal)]
    exact hk
 ·rw [zdi (zkn (by rw [hl];exact h8))]
  exact zkw A n c w h8
end Go.Proofs.YtdbpdhlecgoclaaGreatDoor
