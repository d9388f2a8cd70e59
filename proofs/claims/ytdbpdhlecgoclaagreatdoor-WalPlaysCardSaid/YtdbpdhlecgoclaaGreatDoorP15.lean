/-
  The contract of the statements' Do: an act at the program's disk.
-/
import Derived.Test.YtdbpdhlecgoclaaGreatDoorP00
import Derived.Test.YtdbpdhlecgoclaaGreatDoorP01
import Derived.Test.YtdbpdhlecgoclaaGreatDoorP05
import Derived.Test.YtdbpdhlecgoclaaGreatDoorP07
import Derived.Test.YtdbpdhlecgoclaaGreatDoorP08
import Derived.Test.YtdbpdhlecgoclaaGreatDoorP13
import Derived.Test.YtdbpdhlecgoclaaGreatDoorP14
import Derived.Laws.OwnMore
import Derived.Deep.RegionHeld3
namespace Go.Proofs.YtdbpdhlecgoclaaGreatDoor
set_option maxRecDepth 100000
set_option maxHeartbeats 6400000
open Go Go.RowKit
theorem zao.wide {w:World} {d:Nat} {F G:Nat→Prop} {m:DM} (h:zao w d F m) (hF:∀k,F k→G k) (hG:∀k,G k→k<w.heap.size):zao w d G m:=by
 obtain ⟨g,pv,h1,h2,_⟩:=h
 exact ⟨g,pv,h1,fun k hk=>hF k (h2 k hk),hG⟩
theorem znq {w w1 w2 w3:World} {d:Nat} {F:Nat→Prop} {m':DM} (hF:∀k,F k→k<w.heap.size) (h1:Ext w w1) (h2:zao w2 d (grow F w1 w2) m') (h3:Mod F w1 w2) (h4:Mod (fun k=>w.heap.size≤k∧k<w1.heap.size) w2 w3):zao w3 d (grow F w w3) m'∧Mod F w w3:=by
 refine ⟨(h2.mod h4 fun i hi hl=>?_).wide (fun k hk=>?_) (fun k hk=>?_),((Mod.of_ext h1).then h3).trans h4 fun i hi=>.inr hi.1⟩
 ·rcases hi with hi | hi
  ·have:=hF i hi;omega
  ·omega
 ·rcases hk with hk | hk
  ·exact .inl hk
  ·exact .inr ⟨Nat.le_trans h1.size hk.1,Nat.lt_of_lt_of_le hk.2 h4.size⟩
 ·rcases hk with hk | hk
  ·exact Nat.lt_of_lt_of_le (hF k hk) (Nat.le_trans h1.size (Nat.le_trans h3.size h4.size))
  ·exact hk.2
theorem Act5.Ok.ext {a:Act5} {w w':World} (h:a.Ok w w.heap.size) (k:Ext w w'):a.Ok w' w'.heap.size:=(h.below k).more k.size
def actR (m:DM) (r:Nat) (sec num:Int) (bl:List Nat) (kl:List Bool):Int × DM :=
 match r with
 | 0=>m.flush
 | 1=>m.crash kl
 | 2=>m.start
 | 3=>m.flip sec num
 | 4=>m.lose sec
 | 5=>m.stray sec num
 | 8=>m.setPower num
 | _=>m.write sec (actB num bl)
theorem zlc (m:DM) (kind r:Nat) (h:kind%9=r) (sec num:Int) (bl:List Nat) (kl:List Bool):m.act kind sec num bl kl=actR m r sec num bl kl:=by
 subst h
 rfl
theorem zuV {w:World} {d:Nat} {F:Nat→Prop} {m:DM} (h:zao w d F m) (a:Act5) (ha:a.Ok w w.heap.size) (hk:0<a.kn→Off F a.kA) (hn:a.bn≤140737488355328) (hfew:m.waits.length≤1000000) :
 Calls Tryz.prog 44 #[aD d 0,actV a] w (Outc d F w (m.act a.kind a.sec a.num a.bl a.kl).1 (m.act a.kind a.sec a.num a.bl a.kl).2):=by
 unfold actV
 have hE:=(Ext.refl w).alloc (.cells #[a.kind,a.sec,a.num,.slice a.bA a.bn a.bc,.slice a.kA a.kn a.kc] 48)
 have H:=qj (h.ext hE)
 have HFL:=qj h.lt
 have HA:=qj (ha.ext hE)
 have HK:=qj hk
 have HE:=qj hE
 have hnum:a.num≤9223372036854775807:=(bounds_i64 ha.num).2
 have HNUM:=qj hnum
 obtain ⟨r,hr⟩:∃r,a.kind%9=r:=⟨_,rfl⟩
 have hr9:r<9:=by omega
 have hrm:((a.kind:Nat):Int).tmod 9=(r:Int):=by rw [Int.tmod_eq_emod_of_nonneg (by omega)];omega
 have HACT:=qj (zlc m a.kind r hr a.sec a.num a.bl a.kl)
 clear h ha hk hE hr hnum
 have fin:∀(E:Int) (m':DM) (w2:World),m.act a.kind a.sec a.num a.bl a.kl=(E,m')→zao w2 d (grow F (w.alloc (.cells #[a.kind,a.sec,a.num,.slice a.bA a.bn a.bc,.slice a.kA a.kn a.kc] 48)) w2) m'→Mod F (w.alloc (.cells #[a.kind,a.sec,a.num,.slice a.bA a.bn a.bc,.slice a.kA a.kn a.kc] 48)) w2 →
  Outc d F w (m.act a.kind a.sec a.num a.bl a.kl).1 (m.act a.kind a.sec a.num a.bl a.kl).2 (.returned (.int .i64 E)) w2:=fun E m' w2 he hp hm=>by
  have:=znq HFL.out HE.out hp hm (Mod.refl _ _)
  rw [he]
  exact ⟨rfl,this.1,this.2⟩
 have HFIN:=qj fin
 clear fin
 have hcases:r=0∨r=1∨r=2∨r=3∨r=4∨r=5∨r=8∨(r=6∨r=7):=by omega
 rcases hcases with e | e | e | e | e | e | e | e
 ·subst e
  go_enter Tryz.func44,Tryz.ntmps44
  go_wp2_with fail
  refine (zkU H.out).mono ?_
  rintro e w2 ⟨rfl,hp,hm⟩
  have hfin:=HFIN.out _ _ w2 HACT.out hp hm
  have HF:=qj hfin
  clear hfin hp hm
  go_wp2_with fail
  go_ret
  exact HF.out
 ·subst e
  go_enter Tryz.func44,Tryz.ntmps44
  go_wp2_with fail
  refine (zrW H.out a.kA a.kn a.kc a.kl HA.out.keep HK.out).mono ?_
  rintro e w2 ⟨rfl,hp,hm⟩
  have hfin:=HFIN.out _ _ w2 HACT.out hp hm
  have HF:=qj hfin
  clear hfin hp hm
  go_wp2_with fail
  go_ret
  exact HF.out
 ·subst e
  go_enter Tryz.func44,Tryz.ntmps44
  go_wp2_with fail
  refine (zsc H.out).mono ?_
  rintro e w2 ⟨rfl,hp,hm⟩
  have hfin:=HFIN.out _ _ w2 HACT.out hp hm
  have HF:=qj hfin
  clear hfin hp hm
  go_wp2_with fail
  go_ret
  exact HF.out
 ·subst e
  go_enter Tryz.func44,Tryz.ntmps44
  go_wp2_with fail
  refine (ztd H.out a.sec a.num HNUM.out).mono ?_
  rintro e w2 ⟨rfl,hp,hm⟩
  have hfin:=HFIN.out _ _ w2 HACT.out hp hm
  have HF:=qj hfin
  clear hfin hp hm
  go_wp2_with fail
  go_ret
  exact HF.out
 ·subst e
  go_enter Tryz.func44,Tryz.ntmps44
  go_wp2_with fail
  refine (zsT H.out a.sec).mono ?_
  rintro e w2 ⟨rfl,hp,hm⟩
  have hfin:=HFIN.out _ _ w2 HACT.out hp hm
  have HF:=qj hfin
  clear hfin hp hm
  go_wp2_with fail
  go_ret
  exact HF.out
 ·subst e
  go_enter Tryz.func44,Tryz.ntmps44
  go_wp2_with fail
  refine (zqc H.out a.sec a.num).mono ?_
  rintro e w2 ⟨rfl,hp,hm⟩
  have hfin:=HFIN.out _ _ w2 HACT.out hp hm
  have HF:=qj hfin
  clear hfin hp hm
  go_wp2_with fail
  go_ret
  exact HF.out
 ·subst e
  go_enter Tryz.func44,Tryz.ntmps44
  go_wp2_with fail
  refine (zrK H.out a.num HNUM.out).mono ?_
  rintro e w2 ⟨rfl,hp,hm⟩
  have hfin:=HFIN.out _ _ w2 HACT.out hp hm
  have HF:=qj hfin
  clear hfin hp hm
  go_wp2_with fail
  go_ret
  exact HF.out
 ·have HACT1:Hid (m.act a.kind a.sec a.num a.bl a.kl=m.write a.sec (actB a.num a.bl)):=qj (by
   rw [HACT.out]
   rcases e with rfl | rfl <;> rfl)
  have g0:((r:Int) == 0)=false:=by rw [beq_eq_false_iff_ne];omega
  have g1:((r:Int) == 1)=false:=by rw [beq_eq_false_iff_ne];omega
  have g2:((r:Int) == 2)=false:=by rw [beq_eq_false_iff_ne];omega
  have g3:((r:Int) == 3)=false:=by rw [beq_eq_false_iff_ne];omega
  have g4:((r:Int) == 4)=false:=by rw [beq_eq_false_iff_ne];omega
  have g5:((r:Int) == 5)=false:=by rw [beq_eq_false_iff_ne];omega
  have g8:((r:Int) == 8)=false:=by rw [beq_eq_false_iff_ne];omega
  clear HACT e
  go_enter Tryz.func44,Tryz.ntmps44
  go_wp2_with fail
  refine (ziU a _ HA.out hn).mono ?_
  rintro e w1 ⟨A,n,c,rfl,hown,hx⟩
  have hrow:=heap_alloc_new w (.cells #[a.kind,a.sec,a.num,.slice a.bA a.bn a.bc,.slice a.kA a.kn a.kc] 48)
  have hc1:=cell_of_row w1 _ 1 _ _ _ ((hx.block _ (Array.getElem?_eq_some_iff.1 hrow).1).trans hrow)
  have hsz1:w.heap.size+1≤w1.heap.size:=by have:=hx.size;simpa using this
  have hbs:=Bs.of_own hown (zjK HA.out.bytes.rd.lt)
  have hfresh:∀g,(Value.slice A n c).ownBlock=some g→w.heap.size+1≤g∧g<w1.heap.size:=fun g hg=>by
   have:=hown.lt g hg
   simpa using this
  have HOW:=qj hown
  have HX:=qj hx
  have HFR:=qj hfresh
  have HBS:=qj hbs
  have H1:=qj (H.out.ext hx)
  have hoff:Off F A:=fun p hp hf=>by
   subst hp
   have:=(hfresh p.block rfl).1
   have:=HFL.out _ hf
   omega
  have HOFF:=qj hoff
  clear hown hx hbs hfresh hrow hoff
  go_wp2_with fail
  refine (zhS H1.out a.sec A n c (actB a.num a.bl) HBS.out HOFF.out hfew).mono ?_
  rintro e w2 ⟨rfl,hp,hm⟩
  have hown2:w2.ownsRow (w.heap.size+1) 5 1 (.slice A n c) n (vb (actB a.num a.bl)):=zfQ (zas HOW.out hm fun i hi hf=>by
   have:=(HFR.out i hi).1
   have:=HFL.out _ hf
   omega) (by simp)
  have HP2:=qj hp
  have HM2:=qj hm
  have HO2:=qj hown2
  have HB0:Hid (∀x∈actB a.num a.bl,x<256):=qj (zjK HA.out.bytes.rd.lt)
  have hcap:=(Bs.cap HBS.out)
  have hmost:=(Bs.most HBS.out)
  clear hp hm hown2 hc1
  go_wp2_with fail
  go_loopw [7] (fun i wr=>∃k:Nat,k≤n∧i=.int .i64 k∧(∃l:List Nat,(∀x∈l,x<256)∧Hid (wr.ownsRow (w.heap.size+1) 5 1 (.slice A n c) n (vb l)))∧Hid (Mod (fun k=>w.heap.size≤k∧k<w1.heap.size) w2 wr)) (fun i _=>n-(intOf i).toNat)
  case atStart=>exact ⟨0,Nat.zero_le _,rfl,⟨_,HB0.out,HO2⟩,qj (Mod.refl _ _)⟩
  case round =>
   obtain ⟨k,hk,rfl,⟨l,hl,HO⟩,HM⟩:=hrel
   by_cases hlt:k<n
   ·obtain ⟨g,cap,hv⟩:=Go.Joins.ownsRow_form HO.out (by omega)
    injection hv with hA _ hc
    subst hA;subst hc
    have hll:l.length=n:=by
     have:=HO.out.1
     rwa [zag,Nat.mul_one] at this
    obtain ⟨x,hx⟩:∃x,l[k]?=some x:=⟨_,List.getElem?_eq_getElem (by omega)⟩
    have hcx:wr.cell? (aD g k)=some (.int .u8 (x:Int)):=by
     rw [HO.out.cellAt k (by omega),zdz,hx]
     rfl
    have hfz:=HO.out.frozenAt k
    have hx2:x<256:=hl x (List.mem_of_getElem? hx)
    obtain ⟨y,hy⟩:∃y:Nat,IntKind.u8.wrap ((x:Int)+1)=(y:Int):=⟨((x+1)%256),by rw [IntKind.wrap_u8];omega⟩
    have hy2:y<256:=by rw [IntKind.wrap_u8] at hy;omega
    have hgf:=HFR.out g rfl
    have HL:=qj hl
    clear hx hl hll
    go_wp2_with fail
    go_roundw
    case rel =>
     refine ⟨k+1,by omega,by go_num,⟨l.set k y,fun z hz=>?_,qj ?_⟩,qj (HM.out.setCell (p:=⟨g,k,none⟩) (.inl ⟨by show w.heap.size≤g;omega,hgf.2⟩) _)⟩
     ·rcases List.mem_or_eq_of_mem_set hz with h | h
      ·exact HL.out z h
      ·rw [h];exact hy2
     ·have hs:=(HO.out.stored k (.int .u8 (y:Int))).1
      rw [show (vb l).set k (.int .u8 (y:Int))=vb (l.set k y) by unfold vb;rw [List.map_set]] at hs
      exact hs
    case measure=>simp [intOf];omega
   ·go_wp2_with fail
    go_ret
    have ho:=znq (w1:=w1) HFL.out (HE.out.trans HX.out) HP2.out HM2.out HM.out
    rw [HACT1.out]
    exact ⟨rfl,ho.1,ho.2⟩
theorem RD.ext {w w':World} {d:Nat} {p:Nat→Nat} {m:DM} (h:RD w d p m) (k:Ext w w'):RD w' d p m:=by
 obtain ⟨⟨q,hq⟩,hlt⟩:=h
 exact ⟨⟨q,hq.ext k⟩,fun i hi=>Nat.lt_of_lt_of_le (hlt i hi) k.size⟩
theorem RD.mod {w w':World} {d:Nat} {p:Nat→Nat} {m:DM} {F:Nat→Prop} (h:RD w d p m) (k:Mod F w w') (hF:∀i,p i≠0→¬F i):RD w' d p m:=by
 obtain ⟨⟨q,hq⟩,hlt⟩:=h
 exact ⟨⟨q,hq.mod k hF⟩,fun i hi=>Nat.lt_of_lt_of_le (hlt i hi) k.size⟩
theorem ROut.from {w w1 w2:World} {d:Nat} {p:Nat→Nat} {m':DM} (h:Ext w w1) (k:ROut d p w1 m' w2):ROut d p w m' w2:=by
 obtain ⟨p',h1,h2,h3⟩:=k
 exact ⟨p',h1,(Mod.of_ext h).trans h2 fun i hi=>.inl hi,fun i hi=>(h3 i hi).imp id fun e=>Nat.le_trans h.size e⟩
theorem ztS {u w':World} {g:Nat} {x0 x1 x2 x3 x4:Value} {t:TypeId} {G:Nat→Prop} (k:Hid (Mod G u w')) (hg:Hid (¬G g)) (h:Hid (u.heap[g]?=some (.cells #[x0,x1,x2,x3,x4] t (0,0)))) :
 (CW.mk w' g [x0,x1,x2,x3,x4]:Prop):=by
 have h2:=zah h.out k.out hg.out
 exact ⟨cell_of_row w' g 0 _ _ _ h2,cell_of_row w' g 1 _ _ _ h2,cell_of_row w' g 2 _ _ _ h2,cell_of_row w' g 3 _ _ _ h2,cell_of_row w' g 4 _ _ _ h2⟩
theorem zsV {V w1:World} {A:Option Addr} {n c:Nat} {xs:List Value} {p:Nat→Nat} (h:w1.ownsRow V.heap.size 5 1 (.slice A n c) n xs) (hp:∀i,p i≠0→i<V.heap.size):¬∃g o,A=some ⟨g,o,none⟩∧p g≠0:=by
 rintro ⟨g,o,rfl,hg⟩
 rcases h.2 with ⟨e,_⟩ | ⟨g2,cap,cur,e,hb,_⟩
 ·injection e with e1 _ _
  cases e1
 ·injection e with e1 _ _
  injection e1 with e1
  injection e1 with e1 _
  subst e1
  exact absurd (hp _ hg) (by omega)
theorem zpD {w w2:World} {d:Nat} {p:Nat→Nat} {m':DM} (k:ROut d p w m' w2):Mod (fun i=>p i≠0) w w2:=by
 obtain ⟨_,_,h,_⟩:=k
 exact h
theorem zqT {w:World} {d:Nat} {p:Nat→Nat} {m:DM} (h:RD w d p m) (a:Act5) (ha:a.Ok w w.heap.size) (hk:0<a.kn→Off (fun i=>p i≠0) a.kA) (hn:a.bn≤200) (hfew:m.waits.length≤1000000) :
 Calls Tryz.prog 49 #[aD d 0,.agg #[a.kind,a.sec,a.num,.slice a.bA a.bn a.bc,.slice a.kA a.kn a.kc]] w fun e w'=>e=.returned (.int .i64 (m.act a.kind a.sec a.num a.bl a.kl).1)∧ROut d p w (m.act a.kind a.sec a.num a.bl a.kl).2 w':=by
 have hE:=(Ext.refl w).alloc (.cells #[a.kind,a.sec,a.num,.slice a.bA a.bn a.bc,.slice a.kA a.kn a.kc] 48)
 have hrow:=heap_alloc_new w (.cells #[a.kind,a.sec,a.num,.slice a.bA a.bn a.bc,.slice a.kA a.kn a.kc] 48)
 have H:=qj (h.ext hE)
 have HLT:=qj h.2
 have HA:=qj (ha.ext hE)
 have HK:=qj hk
 have HE:=qj hE
 have HROW:=qj hrow
 have hnum:a.num≤9223372036854775807:=(bounds_i64 ha.num).2
 have HNUM:=qj hnum
 obtain ⟨r,hr⟩:∃r,a.kind%9=r:=⟨_,rfl⟩
 have hr9:r<9:=by omega
 have hrm:((a.kind:Nat):Int).tmod 9=(r:Int):=by rw [Int.tmod_eq_emod_of_nonneg (by omega)];omega
 have HACT:=qj (zlc m a.kind r hr a.sec a.num a.bl a.kl)
 clear h ha hk hE hr hnum hrow
 have hcases:r=0∨r=1∨r=2∨r=3∨r=4∨r=5∨r=8∨(r=6∨r=7):=by omega
 rcases hcases with e | e | e | e | e | e | e | e
 ·subst e
  go_enter Tryz.func49,Tryz.ntmps49
  go_wp2_with fail
  refine (zgX H.out hfew).mono ?_
  rintro e w2 ⟨rfl,ho⟩
  have HF:=qj (ROut.from HE.out ho)
  clear ho
  go_wp2_with fail
  go_ret
  rw [HACT.out]
  exact ⟨rfl,HF.out⟩
 ·subst e
  go_enter Tryz.func49,Tryz.ntmps49
  go_wp2_with fail
  refine (zmk H.out hfew a.kA a.kn a.kc a.kl HA.out.keep HK.out).mono ?_
  rintro e w2 ⟨rfl,ho⟩
  have HF:=qj (ROut.from HE.out ho)
  clear ho
  go_wp2_with fail
  go_ret
  rw [HACT.out]
  exact ⟨rfl,HF.out⟩
 ·subst e
  go_enter Tryz.func49,Tryz.ntmps49
  go_wp2_with fail
  refine (zmg H.out).mono ?_
  rintro e w2 ⟨rfl,ho⟩
  have HF:=qj (ROut.from HE.out ho)
  clear ho
  go_wp2_with fail
  go_ret
  rw [HACT.out]
  exact ⟨rfl,HF.out⟩
 ·subst e
  go_enter Tryz.func49,Tryz.ntmps49
  go_wp2_with fail
  refine (zor H.out a.sec a.num HNUM.out).mono ?_
  rintro e w2 ⟨rfl,ho⟩
  have HF:=qj (ROut.from HE.out ho)
  clear ho
  go_wp2_with fail
  go_ret
  rw [HACT.out]
  exact ⟨rfl,HF.out⟩
 ·subst e
  go_enter Tryz.func49,Tryz.ntmps49
  go_wp2_with fail
  refine (zoM H.out a.sec).mono ?_
  rintro e w2 ⟨rfl,ho⟩
  have HF:=qj (ROut.from HE.out ho)
  clear ho
  go_wp2_with fail
  go_ret
  rw [HACT.out]
  exact ⟨rfl,HF.out⟩
 ·subst e
  go_enter Tryz.func49,Tryz.ntmps49
  go_wp2_with fail
  refine (zlV H.out a.sec a.num).mono ?_
  rintro e w2 ⟨rfl,ho⟩
  have HF:=qj (ROut.from HE.out ho)
  clear ho
  go_wp2_with fail
  go_ret
  rw [HACT.out]
  exact ⟨rfl,HF.out⟩
 ·subst e
  go_enter Tryz.func49,Tryz.ntmps49
  go_wp2_with fail
  refine (zmf H.out a.num HNUM.out).mono ?_
  rintro e w2 ⟨rfl,ho⟩
  have HF:=qj (ROut.from HE.out ho)
  clear ho
  go_wp2_with fail
  go_ret
  rw [HACT.out]
  exact ⟨rfl,HF.out⟩
 ·have HACT1:Hid (m.act a.kind a.sec a.num a.bl a.kl=m.write a.sec (actB a.num a.bl)):=qj (by
   rw [HACT.out]
   rcases e with rfl | rfl <;> rfl)
  have g0:((r:Int) == 0)=false:=by rw [beq_eq_false_iff_ne];omega
  have g1:((r:Int) == 1)=false:=by rw [beq_eq_false_iff_ne];omega
  have g2:((r:Int) == 2)=false:=by rw [beq_eq_false_iff_ne];omega
  have g3:((r:Int) == 3)=false:=by rw [beq_eq_false_iff_ne];omega
  have g4:((r:Int) == 4)=false:=by rw [beq_eq_false_iff_ne];omega
  have g5:((r:Int) == 5)=false:=by rw [beq_eq_false_iff_ne];omega
  have g8:((r:Int) == 8)=false:=by rw [beq_eq_false_iff_ne];omega
  obtain ⟨V,hV⟩:∃V,w.alloc (.cells #[a.kind,a.sec,a.num,.slice a.bA a.bn a.bc,.slice a.kA a.kn a.kc] 48)=V:=⟨_,rfl⟩
  have hVs:V.heap.size=w.heap.size+1:=by rw [←hV];simp
  rw [hV] at H HA HE HROW
  have HG:Hid (¬(fun i=>p i≠0) w.heap.size):=qj fun h=>absurd (HLT.out _ h) (by omega)
  have HRd:Hid (V.drew.heap[w.heap.size]?=_):=HROW
  have HM0:Hid (Mod (fun i=>p i≠0) V.drew V.drew):=qj (Mod.refl _ _)
  have HAd:=qj (HA.out.ext (Ext.refl V).drew)
  have HDd:=qj (H.out.ext (Ext.refl V).drew)
  obtain ⟨c0,c1,c2,c3,c4⟩:=ztS HM0 HG HRd
  have hc0:=cell_of_row V w.heap.size 0 _ _ _ HROW.out
  have HVS:=qj hVs
  have HSEC:Hid (Calls Tryz.prog 93 #[.agg #[a.kind,a.sec,a.num,.slice a.bA a.bn a.bc,.slice a.kA a.kn a.kc]] V.drew fun e w'=>∃A n c,e=.returned (.slice A n c)∧w'.ownsRow V.drew.heap.size 5 1 (.slice A n c) n (vb (actB a.num a.bl))∧Ext V.drew w'):=qj (ziU a _ HAd.out (by omega))
  clear HACT e HROW H HA
  go_enter Tryz.func49,Tryz.ntmps49
  go_wp2_with fail
  go_region_held3 (fun w'=>(CW.mk w' w.heap.size [a.kind,a.sec,a.num,.slice a.bA a.bn a.bc,.slice a.kA a.kn a.kc]:Prop))
   (first | exact ztS (by assumption) HG HRd)
   (first
    | (go_at_call 93;((with_reducible refine HSEC.out.mono ?_);rintro e w1 ⟨A,n,c,rfl,hown,hx⟩;have HM1:Hid (Mod (fun i=>p i≠0) V.drew w1):=qj (Mod.of_ext hx);have HX1:=qj hx;have HD1:=qj (HDd.out.ext hx);have HB1:Hid (By w1 A n c (actB a.num a.bl)):=qj (Bs.of_own hown (zjK HAd.out.bytes.rd.lt));have HO1:=qj (zsV hown (fun i hi=>by have:=HLT.out i hi;have h2:=HVS.out;show i<V.heap.size;omega));clear hown hx))
    | (go_at_call 50;((with_reducible refine (zeR HD1.out a.sec A n c (actB a.num a.bl) HB1.out HO1.out hfew).mono ?_);rintro e w2 ⟨rfl,ho⟩;have HM2:Hid (Mod (fun i=>p i≠0) V.drew w2):=qj (HM1.out.trans (zpD ho) fun i hi=>.inl hi);have HF:=qj (ROut.from (((HE.out.trans (Ext.refl V).drew)).trans HX1.out) ho);clear ho)))
  all_goals
   go_wp2_with fail
   go_ret
   rw [HACT1.out]
   exact ⟨rfl,HF.out⟩
section
open Go
theorem zlD {l:List Nat} (hs:l.length=64∨l.length=128) (h:bodyN l≤roomN ((l.length/64:Nat):Int)):bodyN l+21≤l.length∧l.length/64 * 64=l.length:=by
 rcases hs with h64 | h64
 ·rw [h64] at h ⊢
  rw [show roomN ((64/64:Nat):Int)=43 from rfl] at h
  omega
 ·rw [h64] at h ⊢
  rw [show roomN ((128/64:Nat):Int)=88 from rfl] at h
  omega
end
theorem By.sub {w:World} {g o n c:Nat} {l:List Nat} (h:By w (some ⟨g,o,none⟩) n c l) (i k c':Nat) (hk:i+k≤n) (hc:k≤c') (hm:c'≤9223372036854775807):By w (some ⟨g,o+i,none⟩) k c' ((l.drop i).take k) :=
 ⟨by rw [List.length_take,List.length_drop,h.len];omega,hc,hm,(h.rd.drop rfl i).take k,fun hh=>by cases hh⟩
def okB (l:List Nat):Bool:=PV (zad l) && decide (17+bodyN l≤l.length)
def qf (l:List Nat) (k:Nat):Nat:=if okB l=true then pf (zad l) k else 0
def ql (l:List Nat):List Nat:=if okB l=true then zaH l else []
theorem zap {l:List Nat} (h:okB l=true) (k:Nat):qf l k=pf (zad l) k:=by unfold qf;rw [if_pos h]
theorem zhq {l:List Nat} (h:okB l=false) (k:Nat):qf l k=0:=by unfold qf;rw [if_neg (by rw [h];simp)]
theorem zce {l:List Nat} (h:okB l=true):ql l=zaH l:=by unfold ql;rw [if_pos h]
theorem zqn {l:List Nat} (h:okB l=false):ql l=[]:=by unfold ql;rw [if_neg (by rw [h];simp)]
theorem zuz {l:List Nat} (h:PV (zad l)=false):okB l=false:=by unfold okB;rw [h];rfl
theorem zrC {l:List Nat} (h:l.length<17+bodyN l):okB l=false:=by
 unfold okB
 rw [decide_eq_false (by omega),Bool.and_false]
theorem zgB {l:List Nat} (hp:PV (zad l)=true) (h:17+bodyN l≤l.length):okB l=true:=by
 unfold okB
 rw [hp,decide_eq_true h]
 rfl
def stN (l:List Nat):Nat:=if szB l=true then (if zaO l=true then 0 else if zat l=true then 1 else 2) else 2
def ofl (l:List Nat) (k:Nat):Nat:=if zat l=true then pf (zad l) k else 0
def obl (l:List Nat):List Nat:=if zat l=true then zaH l else []
theorem zjZ {l:List Nat} (h:zat l=true) (k:Nat):ofl l k=pf (zad l) k:=by unfold ofl;rw [if_pos h]
theorem zaY {l:List Nat} (h:zat l=false) (k:Nat):ofl l k=0:=by unfold ofl;rw [if_neg (by rw [h];simp)]
theorem zjG {l:List Nat} (h:zat l=true):obl l=zaH l:=by unfold obl;rw [if_pos h]
theorem zcs {l:List Nat} (h:zat l=false):obl l=[]:=by unfold obl;rw [if_neg (by rw [h];simp)]
theorem zsQ {l:List Nat} (h:zat l=true):szB l=true:=by
 unfold zat at h
 simp only [Bool.and_eq_true] at h
 exact h.1.1.1
theorem zcY {l:List Nat}:szB l=true↔l.length=64∨l.length=128:=by
 unfold szB
 simp
theorem zdv {l:List Nat} (h:zat l=true):stN l=1:=by
 unfold stN
 rw [if_pos (zsQ h),if_neg (by rw [zeM h];simp),if_pos h]
theorem zji {l:List Nat} (hs:szB l=true) (h:zaO l=true):stN l=0:=by unfold stN;rw [if_pos hs,if_pos h]
theorem zhV {l:List Nat} (h:szB l=false):stN l=2:=by unfold stN;rw [if_neg (by rw [h];simp)]
theorem zcW {l:List Nat} (hz:zaO l=false) (h:zat l=false):stN l=2:=by
 unfold stN
 rw [if_neg (show ¬zaO l=true by rw [hz];simp),if_neg (show ¬zat l=true by rw [h];simp)]
 split <;> rfl
theorem zfo {l:List Nat} (h:szB l=false):zat l=false:=by
 unfold zat
 rw [h]
 rfl
theorem zko {l:List Nat} (h:zaO l=true):zat l=false:=by
 by_cases hg:zat l=true
 ·rw [zeM hg] at h;cases h
 ·simpa using hg
theorem znb {l:List Nat}:stN l=1↔zat l=true:=by
 constructor
 ·intro h
  by_cases hg:zat l=true
  ·exact hg
  ·have hg':zat l=false:=by simpa using hg
   unfold stN at h
   rw [if_neg hg] at h
   split at h
   ·split at h <;> cases h
   ·cases h
 ·exact zdv
theorem znl {l:List Nat} (h:szB l=false):roomN ((wsN l.length:Nat):Int)=0:=by
 have hs:¬(l.length=64∨l.length=128):=fun hh=>by rw [zcY.2 hh] at h;cases h
 unfold wsN
 by_cases hm:l.length%64=0
 ·rw [if_pos hm]
  exact zek (by omega) (by omega)
 ·rw [if_neg hm]
  exact zek (by omega) (by omega)
theorem zrY {l:List Nat} (h:szB l=true):wsN l.length=l.length/64:=by
 unfold wsN
 rw [zcY] at h
 rw [if_pos (by omega)]
theorem zdV {l:List Nat} (h:szB l=true):roomN ((l.length/64:Nat):Int)≠0:=by
 rw [zcY] at h
 rcases h with h | h
 ·rw [h];decide
 ·rw [h];decide
theorem zhX {l:List Nat} (h:zat l=true):okB l=true:=by
 obtain ⟨hs,hp,hn,_⟩:=zbA h
 have:=zlD hs hn
 exact zgB hp (by omega)
theorem zjt {l:List Nat} (h:PV l=true):mayB (pf l 0) (pf l 1) (pf l 2) (pf l 3) (pf l 4)=true:=by
 rw [zaX h,zaX h,zaX h,zaX h,zaX h]
 unfold PV at h
 simp only [Bool.and_eq_true] at h
 exact h.2
theorem zrk {l:List Nat} (hl:∀b∈l,b<256):∀b∈zad l,b<256:=fun x hx=>hl x (List.mem_of_mem_drop (List.mem_of_mem_take hx))
theorem zbk {l:List Nat} (h:17+bodyN l≤l.length):(zaH l).length=bodyN l:=by unfold zaH;rw [List.length_take,List.length_drop];omega
theorem zbY {l:List Nat} (h:okB l=true):PV (zad l)=true∧17+bodyN l≤l.length:=by
 unfold okB at h
 simpa using h
def reE (l:List Nat):Int:=sealE (qf l 0) (qf l 1) (qf l 2) (qf l 3) (qf l 4) (ql l).length ((l.length/64:Nat):Int)
def reL (l:List Nat):List Nat:=sealL (qf l 0) (qf l 1) (qf l 2) (qf l 3) (qf l 4) (ql l) ((l.length/64:Nat):Int)
theorem zuR {l:List Nat} (hs:szB l=true) (h:reE l≠0):zat l=false:=by
 by_cases hg:zat l=true
 ·refine absurd ?_ h
  have ho:=zhX hg
  obtain ⟨hp,hn⟩:=zbY ho
  unfold reE
  rw [zap ho,zap ho,zap ho,zap ho,zap ho,zce ho]
  exact zbD (zdV hs) (zjt hp) (by rw [zbk hn];exact (zbA hg).2.2.1)
 ·simpa using hg
theorem zlJ {l:List Nat} (hs:szB l=true) (hl:∀b∈l,b<256) (h:reE l=0):zat l=decide (reL l=l):=by
 have hr:=zdV hs
 by_cases ho:okB l=true
 ·obtain ⟨hp,hn⟩:=zbY ho
  unfold reE at h
  rw [zap ho,zap ho,zap ho,zap ho,zap ho,zce ho,zbk hn] at h
  have hroom:bodyN l≤roomN ((l.length/64:Nat):Int):=by
   rcases Nat.lt_or_ge (roomN ((l.length/64:Nat):Int)) (bodyN l) with h1 | h1
   ·rw [zdF hr (zjt hp) h1] at h;cases h
   ·exact h1
  have hL:reL l=zbN (zaH l) (zad l) (l.length/64):=by
   unfold reL
   rw [zap ho,zap ho,zap ho,zap ho,zap ho,zce ho,zex (by rw [zbk hn];exact h),(zvb hp (zrk hl)).1,Int.toNat_natCast]
  rw [hL]
  unfold zat
  rw [hs,hp,decide_eq_true hroom,Bool.true_and,Bool.true_and,Bool.true_and]
  by_cases he:l=zbN (zaH l) (zad l) (l.length/64)
  ·rw [decide_eq_true he,decide_eq_true he.symm]
  ·rw [decide_eq_false he,decide_eq_false fun hh=>he hh.symm]
 ·have ho':okB l=false:=by simpa using ho
  unfold reE at h
  rw [zhq ho',zhq ho',zhq ho',zhq ho',zhq ho',zeG (.inr (by decide))] at h
  cases h
theorem zkA {w:World} {g h k:Nat} (hne:g≠h) (x0 x1 x2 x3 x4:Value) :
 ((SW.mk w g [x0,x1,x2,x3,x4]:World)).cell? (aD h k)=w.cell? (aD h k):=by
 rw [World.cell?_setCell_far _ ⟨g,4,none⟩ ⟨h,k,none⟩ _ hne,World.cell?_setCell_far _ ⟨g,3,none⟩ ⟨h,k,none⟩ _ hne,World.cell?_setCell_far _ ⟨g,2,none⟩ ⟨h,k,none⟩ _ hne,World.cell?_setCell_far _ ⟨g,1,none⟩ ⟨h,k,none⟩ _ hne,World.cell?_setCell_far _ ⟨g,0,none⟩ ⟨h,k,none⟩ _ hne]
theorem zaj {w:World} {g h k:Nat} {v:Value} (hne:g≠h) (hc:w.cell? (aD h k)=some v) (x0 x1 x2 x3 x4:Value) :
 ((SW.mk w g [x0,x1,x2,x3,x4]:World)).drew.cell? (aD h k)=some v:=by
 have e:∀W:World,W.drew.cell? (aD h k)=W.cell? (aD h k):=fun _=>rfl
 rw [e,zkA hne]
 exact hc
theorem zdR {w:World} {g t:Nat} {fr:Nat × Nat} {cs cs':Array Value} (i:Nat) (h:w.heap[g]?=some (.cells cs t fr)) (x:Value) (e:cs.setIfInBounds i x=cs'):(w.setCell (aD g i) x).heap[g]?=some (.cells cs' t fr):=by
 subst e
 rw [setCell_eq_setRow w g i cs t fr x h]
 exact setRow_heap w g _ _ _ _ h
theorem zaD {w:World} {g t:Nat} {y0 y1 y2 y3 y4:Value} (h:w.heap[g]?=some (.cells #[y0,y1,y2,y3,y4] t (0,0))) (x0 x1 x2 x3 x4:Value) :
 ((SW.mk w g [x0,x1,x2,x3,x4]:World)).heap[g]?=some (.cells #[x0,x1,x2,x3,x4] t (0,0)):=by
 exact zdR 4 (zdR 3 (zdR 2 (zdR 1 (zdR 0 h x0 rfl) x1 rfl) x2 rfl) x3 rfl) x4 rfl
theorem zcQ {w:World} {g:Nat} {y0 y1 y2 y3 y4:Value} (h:w.heap[g]?=some (.cells #[y0,y1,y2,y3,y4] 44 (0,0))) (x0 x1 x2 x3 x4:Value) :
 ((SW.mk w g [x0,x1,x2,x3,x4]:World)).drew.cell? (aD g 0)=some x0 ∧
 ((SW.mk w g [x0,x1,x2,x3,x4]:World)).drew.cell? (aD g 1)=some x1 ∧
 ((SW.mk w g [x0,x1,x2,x3,x4]:World)).drew.cell? (aD g 2)=some x2 ∧
 ((SW.mk w g [x0,x1,x2,x3,x4]:World)).drew.cell? (aD g 3)=some x3 ∧
 ((SW.mk w g [x0,x1,x2,x3,x4]:World)).drew.cell? (aD g 4)=some x4:=by
 have e:∀(W:World) k,W.drew.cell? (aD g k)=W.cell? (aD g k):=fun _ _=>rfl
 rw [e,e,e,e,e]
 exact (zac (zaD h x0 x1 x2 x3 x4)).1
theorem zpl {w:World} {g h k:Nat} {x:Value} {o:Obj} (hne:g≠h) (hh:w.heap[h]?=some o) (hg:∃cs t fr,w.heap[g]?=some (.cells cs t fr)):(w.setCell (aD g k) x).heap[h]?=some o:=by
 obtain ⟨cs,t,fr,hr⟩:=hg
 rw [setCell_eq_setRow w g k cs t fr x hr]
 exact (setRow_other w _ _ _ (fun e=>hne e.symm)).trans hh
theorem zgR {w:World} {g h t:Nat} {y0 y1 y2 y3 y4:Value} {o:Obj} (hne:g≠h) (hg:w.heap[g]?=some (.cells #[y0,y1,y2,y3,y4] t (0,0))) (hh:w.heap[h]?=some o) (x0 x1 x2 x3 x4:Value) :
 ((SW.mk w g [x0,x1,x2,x3,x4]:World)).heap[h]?=some o:=by
 have step:∀(W:World) (k:Nat) (x:Value),(∃cs t fr,W.heap[g]?=some (.cells cs t fr))→W.heap[h]?=some o→(∃cs t fr,(W.setCell (aD g k) x).heap[g]?=some (.cells cs t fr))∧(W.setCell (aD g k) x).heap[h]?=some o:=by
  intro W k x hr hW
  refine ⟨?_,zpl hne hW hr⟩
  obtain ⟨cs,t,fr,hr⟩:=hr
  rw [setCell_eq_setRow W g k cs t fr x hr]
  exact ⟨_,_,_,setRow_heap W _ _ _ _ _ hr⟩
 obtain ⟨a0,b0⟩:=step w 0 x0 ⟨_,_,_,hg⟩ hh
 obtain ⟨a1,b1⟩:=step _ 1 x1 a0 b0
 obtain ⟨a2,b2⟩:=step _ 2 x2 a1 b1
 obtain ⟨a3,b3⟩:=step _ 3 x3 a2 b2
 exact (step _ 4 x4 a3 b3).2
theorem zrI (g n cp N:Nat) (hn:17+N≤cp):∃A':Option Addr,(0<N→A'=some ⟨g,17,none⟩) ∧
 ∀w,(Instr.slice 45 (.slice (some ⟨g,0,none⟩) n cp) (some (.int .i64 17)) (some (.int .i64 (17+(N:Int)))) (some (.int .i64 (17+(N:Int))))).run Tryz.prog w=.ok (.slice A' N N) w:=by
 refine ⟨if 17+N=17 then some ⟨g,0,none⟩ else some ⟨g,17,none⟩,fun h=>by rw [if_neg (by omega)],fun w=>?_⟩
 have ht:Tryz.prog.elem 45=5:=by kernel_rfl
 have hs:(sizeOf (Tryz.prog.elem 45)).run Tryz.prog w=.ok 1 w:=by
  obtain ⟨i0,hi,_,hz1,_⟩:=info_parts zay
  rw [ht]
  simp [Go.sizeOf,typeInfo,hi,hz1]
 rw [run_slice_lhm w 45 (some ⟨g,0,none⟩) n cp (by rw [ht];exact Tryz.underlying45) .i64 .i64 .i64 17 (17+(N:Int)) (17+(N:Int)) (by omega) (by omega) (by omega) (by omega),hs]
 have e:(17+(N:Int)).toNat=17+N:=by omega
 simp only [Result.andThen,sliced,e]
 have e2:17+N-Int.toNat 17=N:=by omega
 rw [e2,show Int.toNat 17=17 from rfl]
 rfl
theorem znQ (g n cp:Nat) (l:List Nat) (w:World) (hL:LaidA w) (hb:By w (some ⟨g,0,none⟩) n cp l) (hn:64≤n) (hn2:n≤128) :
 Calls Tryz.prog 194 #[.slice (some ⟨g,0,none⟩) n cp] w fun r w'=>∃A' N,r=.returned (.tuple #[.agg #[.int .i64 (qf l 0),.int .i64 (qf l 1),.int .i64 (qf l 2),.int .i64 (qf l 3),.int .i64 (qf l 4)],.slice A' N N])∧By w' A' N N (ql l)∧(0<N→A'=some ⟨g,17,none⟩∧17+N≤n)∧Ext w w':=by
 have hz:(w.alloc (.cells Zk.c 44)).heap[w.heap.size]?=some (.cells Zk.c 44 (0,0)):=heap_alloc_new w _
 have hE:=(Ext.refl w).alloc (.cells Zk.c 44)
 have hcap:=Bs.cap hb
 have hmost:=Bs.most hb
 have HN:Hid (l.length=n):=qj (Bs.len hb)
 have HG:Hid (getS l 0 2=(bodyN l,2,0)):=qj (zfX (x:=2) rfl (by rw [HN.out];omega))
 have hN16:bodyN l<65536:=by
  have h2:=zmX (l.take 2) (fun b hb'=>(Bs.rd hb).lt b (List.mem_of_mem_take hb'))
  rw [List.length_take,Nat.min_eq_left (by rw [HN.out];omega)] at h2
  exact h2
 have HB:=qj hb
 have HL:=qj hL
 have HE:=qj hE
 have HZ:=qj hz
 have HSub:Hid (By w (some ⟨g,2,none⟩) 15 (cp-2) (zad l)):=qj (by have:=hb.sub 2 15 (cp-2) (by omega) (by omega) (by omega);rwa [Nat.zero_add] at this)
 clear hb hL hE hz
 go_enter Tryz.func194,Tryz.ntmps194
 go_wp2_with fail
 refine (zuI _ l n cp 0 2 _ (HL.out.ext HE.out).o (HB.out.ext HE.out) (by omega)).mono ?_
 rw [HG.out]
 rintro r w1 ⟨rfl,hx⟩
 have HE:=qj (HE.out.trans hx)
 have hz1:=(hx.block _ (Array.getElem?_eq_some_iff.1 HZ.out).1).trans HZ.out
 have HZ:=qj hz1
 clear hx hz1
 go_wp2_with fail
 by_cases hv:PV (zad l)=true
 ·by_cases hle:17+bodyN l≤n
  ·have ho:okB l=true:=zgB hv (by rw [HN.out];exact hle)
   have HF:Hid (∀k,qf l k=pf (zad l) k):=qj (zap ho)
   have HQ:Hid (ql l=zaH l):=qj (zce ho)
   refine (zfP _ _ _ (zad l) _ (HL.out.ext HE.out) (HSub.out.ext ((Ext.refl w).trans HE.out)) (by omega)).mono ?_
   rw [zfD hv]
   rintro r w2 ⟨rfl,hx2⟩
   have hx:=hx2.alloc (.cells #[.int .i64 (pf (zad l) 0),.int .i64 (pf (zad l) 1),.int .i64 (pf (zad l) 2),.int .i64 (pf (zad l) 3),.int .i64 (pf (zad l) 4)] 44)
   have hr2:=heap_alloc_new w2 (.cells #[.int .i64 (pf (zad l) 0),.int .i64 (pf (zad l) 1),.int .i64 (pf (zad l) 2),.int .i64 (pf (zad l) 3),.int .i64 (pf (zad l) 4)] 44)
   have hz1:=(hx.block _ (Array.getElem?_eq_some_iff.1 HZ.out).1).trans HZ.out
   have HE:=qj (HE.out.trans hx)
   have HR2:=qj hr2
   have HZ1:Hid (w1.heap[w.heap.size]?=_):=HZ
   have hlt1:=Ext.size (show Ext w1 w2 from hx2)
   have HZ:=qj hz1
   obtain ⟨⟨c0,c1,c2,c3,c4⟩,f0,f1,f2,f3,f4⟩:=zac hz1
   obtain ⟨⟨d0,d1,d2,d3,d4⟩,_⟩:=zac hr2
   clear hx hr2 hz1 hv ho HG
   go_wp2_with fail
   generalize w2.alloc (.cells #[.int .i64 (pf (zad l) 0),.int .i64 (pf (zad l) 1),.int .i64 (pf (zad l) 2),.int .i64 (pf (zad l) 3),.int .i64 (pf (zad l) 4)] 44)=W at *
   generalize w2.heap.size=h2 at *
   generalize hh0:w.heap.size=h0 at *
   generalize hbN:bodyN l=N at *
   have HBN:=qj hbN
   clear hbN
   have HN0:=qj hh0
   have hne:h0≠h2:=by have:=(Array.getElem?_eq_some_iff.1 HZ1.out).1;omega
   clear hh0
   obtain ⟨A',hA',hsl⟩:=zrI g n cp N (by omega)
   have HA':=qj hA'
   clear hA'
   go_region_held3 (fun w'=>(CW.mk w' h2 [.int .i64 (pf (zad l) 0),.int .i64 (pf (zad l) 1),.int .i64 (pf (zad l) 2),.int .i64 (pf (zad l) 3),.int .i64 (pf (zad l) 4)]:Prop))
    (first | with_reducible exact ⟨d0,d1,d2,d3,d4⟩ | with_reducible exact ⟨zaj hne d0 _ _ _ _ _,zaj hne d1 _ _ _ _ _,zaj hne d2 _ _ _ _ _,zaj hne d3 _ _ _ _ _,zaj hne d4 _ _ _ _ _⟩ | go_keep)
    (first | (go_at_call 0;fail))
   have hrow:=zaD HZ.out (.int .i64 (pf (zad l) 0)) (.int .i64 (pf (zad l) 1)) (.int .i64 (pf (zad l) 2)) (.int .i64 (pf (zad l) 3)) (.int .i64 (pf (zad l) 4))
   have hx:=zal HE.out (g:=h0) (Nat.le_of_eq HN0.out) (.int .i64 (pf (zad l) 0)) (.int .i64 (pf (zad l) 1)) (.int .i64 (pf (zad l) 2)) (.int .i64 (pf (zad l) 3)) (.int .i64 (pf (zad l) 4))
   clear c0 c1 c2 c3 c4 f0 f1 f2 f3 f4 d0 d1 d2 d3 d4
   generalize ((SW.mk W h0 [.int .i64 (pf (zad l) 0),.int .i64 (pf (zad l) 1),.int .i64 (pf (zad l) 2),.int .i64 (pf (zad l) 3),.int .i64 (pf (zad l) 4)]:World))=V at hrow hx ⊢
   obtain ⟨⟨e0,e1,e2,e3,e4⟩,_⟩:=zac hrow
   have HX:=qj hx.drew
   have HBy:Hid (By V.drew A' N N (zaH l)):=by
    refine qj ?_
    by_cases h0N:N=0
    ·have hnil:zaH l=[]:=by unfold zaH;rw [HBN.out,h0N,List.take_zero]
     subst h0N
     rw [hnil]
     exact ⟨rfl,Nat.le_refl _,by omega,Rd.nil_,fun _=>rfl⟩
    ·rw [HA'.out (by omega)]
     have hs:=(HB.out.sub 17 N N (by omega) (Nat.le_refl _) (by omega)).ext HX.out
     rw [Nat.zero_add] at hs
     unfold zaH
     rw [HBN.out]
     exact hs
   clear hrow hx
   go_wp2_with fail
   refine bodyPost_ret (v:=.tuple #[.agg #[.int .i64 (pf (zad l) 0),.int .i64 (pf (zad l) 1),.int .i64 (pf (zad l) 2),.int .i64 (pf (zad l) 3),.int .i64 (pf (zad l) 4)],.slice A' N N]) ?_ rfl ?_
   ·simp [results,Tryz.results194,go_sem,e0,e1,e2,e3,e4]
   ·exact ⟨A',N,by rw [HF.out,HF.out,HF.out,HF.out,HF.out],by rw [HQ.out];exact HBy.out,fun hN=>⟨HA'.out hN,hle⟩,HX.out⟩
  ·have ho:okB l=false:=zrC (by rw [HN.out];omega)
   have HF:Hid (∀k,qf l k=0):=qj (zhq ho)
   have HQ:Hid (ql l=[]):=qj (zqn ho)
   refine (zfP _ _ _ (zad l) _ (HL.out.ext HE.out) (HSub.out.ext ((Ext.refl w).trans HE.out)) (by omega)).mono ?_
   rw [zfD hv]
   rintro r w2 ⟨rfl,hx2⟩
   have hx:=hx2.alloc (.cells #[.int .i64 (pf (zad l) 0),.int .i64 (pf (zad l) 1),.int .i64 (pf (zad l) 2),.int .i64 (pf (zad l) 3),.int .i64 (pf (zad l) 4)] 44)
   have hz1:=(hx.block _ (Array.getElem?_eq_some_iff.1 HZ.out).1).trans HZ.out
   have HE:=qj (HE.out.trans hx)
   obtain ⟨⟨c0,c1,c2,c3,c4⟩,f0,f1,f2,f3,f4⟩:=zac hz1
   clear hx hz1 hv ho HG
   generalize bodyN l=N at *
   go_wp2_with fail
   refine bodyPost_ret (v:=.tuple #[.agg Zk.c,.slice none 0 0]) ?_ rfl ?_
   ·simp [results,Tryz.results194,go_sem,c0,c1,c2,c3,c4]
   ·exact ⟨none,0,by rw [HF.out,HF.out,HF.out,HF.out,HF.out];rfl,by rw [HQ.out];exact By.nil_ _,fun hN=>absurd hN (by omega),zal HE.out (Nat.le_refl _) _ _ _ _ _⟩
 ·have hv':PV (zad l)=false:=by simpa using hv
  have ho:okB l=false:=zuz hv'
  have HF:Hid (∀k,qf l k=0):=qj (zhq ho)
  have HQ:Hid (ql l=[]):=qj (zqn ho)
  refine (zfP _ _ _ (zad l) _ (HL.out.ext HE.out) (HSub.out.ext ((Ext.refl w).trans HE.out)) (by omega)).mono ?_
  rw [zgt hv',zaG hv',zaG hv',zaG hv',zaG hv',zaG hv']
  rintro r w2 ⟨rfl,hx2⟩
  have hx:=hx2.alloc (.cells Zk.c 44)
  have hz1:=(hx.block _ (Array.getElem?_eq_some_iff.1 HZ.out).1).trans HZ.out
  have HE:=qj (HE.out.trans hx)
  obtain ⟨⟨c0,c1,c2,c3,c4⟩,f0,f1,f2,f3,f4⟩:=zac hz1
  clear hx hz1 hv ho HG hv'
  generalize bodyN l=N at *
  go_wp2_with fail
  refine bodyPost_ret (v:=.tuple #[.agg Zk.c,.slice none 0 0]) ?_ rfl ?_
  ·simp [results,Tryz.results194,go_sem,c0,c1,c2,c3,c4]
  ·exact ⟨none,0,by rw [HF.out,HF.out,HF.out,HF.out,HF.out];rfl,by rw [HQ.out];exact By.nil_ _,fun hN=>absurd hN (by omega),zal HE.out (Nat.le_refl _) _ _ _ _ _⟩
end Go.Proofs.YtdbpdhlecgoclaaGreatDoor
