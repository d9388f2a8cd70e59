/-
  The contract of the document's own comparison of bytes: it tells whether two lists of bytes are the same,and leaves the memory as it was.
-/
import Derived.Test.YtdbpdhlecgoclaaGreatDoorP00
import Derived.Test.YtdbpdhlecgoclaaGreatDoorP01
import Derived.Test.YtdbpdhlecgoclaaGreatDoorP05
import Derived.Test.YtdbpdhlecgoclaaGreatDoorProg
import Derived.WalkSpells
import Derived.BigQuiet
import Derived.Deep.QuietTactic
import Derived.Lib.Hide
import Derived.Outline
import Derived.WalkKit
import Derived.WalkLawsBesides
import Derived.Lib.SliceRun
import Derived.Shelf.Bytes.SlCountOne
import Derived.Shelf.Bytes.SlSmallAll
import Derived.Deep.RegionHeld3
import Derived.Laws.Tables
import Derived.Laws.CopyOwn
import Derived.IntWalk
import Derived.Lib.AppendZeros
import Derived.OwnWalk
namespace Go.Proofs.YtdbpdhlecgoclaaGreatDoor
set_option maxRecDepth 100000
set_option maxHeartbeats 6400000
open Go Go.RowKit
theorem zqe (A A':Option Addr) (l l':List Nat) (n n' c c' B:Nat) (w:World) (hl:l.length=n) (hl':l'.length=n') (hr:Rd w B A l) (hr':Rd w B A' l') (hm:n≤maxLen) :
 Calls Tryz.prog 190 #[.slice A n c,.slice A' n' c'] w fun e w'=>e=.returned (.bool (decide (l=l')))∧∃k,w'=w.drewN k:=by
 unfold maxLen at hm
 by_cases hne:n=n'
 ·subst hne
  have HL:=qj hl
  have HL':=qj hl'
  clear hl hl'
  go_enter Tryz.func190,Tryz.ntmps190
  go_wp2_with fail
  go_loopw [5] (fun i wr=>∃k:Nat,k≤n∧i=.int .i64 k∧(∃j,wr=w.drewN j)∧l.take k=l'.take k) (fun i _=>n-(intOf i).toNat)
  case atStart=>exact ⟨0,Nat.zero_le _,rfl,⟨0,rfl⟩,rfl⟩
  case round =>
   obtain ⟨k,hk,rfl,⟨j,rfl⟩,htk⟩:=hrel
   have HT:=qj htk
   clear htk
   by_cases hlt:k<n
   ·obtain ⟨g,o,x,hA,_,hx,hx2,hcx⟩:=hr.at_ (k:=k) (by rw [HL.out];exact hlt)
    obtain ⟨g',o',y,hA',_,hy,hy2,hcy⟩:=hr'.at_ (k:=k) (by rw [HL'.out];exact hlt)
    subst hA;subst hA'
    have HX:=qj hx
    have HY:=qj hy
    clear hx hy
    by_cases hxy:x=y
    ·subst hxy
     have hb:(((x:Nat):Int) != ((x:Nat):Int))=false:=by simp
     go_wp2_with fail
     go_quiet (fail)
     go_wp2_with fail
     go_roundw
     case rel=>exact ⟨k+1,by omega,by go_num,⟨_,rfl⟩,znN HT.out HX.out HY.out⟩
     case measure=>simp [intOf];omega
    ·have hb:(((x:Nat):Int) != ((y:Nat):Int))=true:=by rw [bne_iff_ne];omega
     have HF:=qj (zpk HX.out HY.out hxy)
     clear hxy
     go_wp2_with fail
     go_quiet (fail)
     go_wp2_with fail
     go_ret
     exact ⟨by rw [HF.out];rfl,_,zoN _ _ _⟩
   ·have HF:Hid (decide (l=l')=true):=by
     apply qj
     have:=HT.out
     rw [List.take_of_length_le (by have:=HL.out;omega),List.take_of_length_le (by have:=HL'.out;omega)] at this
     simpa using this
    go_wp2_with fail
    go_ret
    exact ⟨by rw [HF.out];rfl,_,rfl⟩
 ·have HF:=qj (show decide (l=l')=false by
   simp only [decide_eq_false_iff_not]
   rintro rfl
   exact hne (hl.symm.trans hl'))
  have hb:(((n:Nat):Int) != ((n':Nat):Int))=true:=by rw [bne_iff_ne];omega
  clear hne hl hl'
  go_enter Tryz.func190,Tryz.ntmps190
  go_wp2_with fail
  go_ret
  exact ⟨by rw [HF.out];rfl,0,rfl⟩
theorem zns (A A':Option Addr) (l l':List Nat) (n n' c c':Nat) (w:World) (hb:By w A n c l) (hb':By w A' n' c' l') :
 (cL 190 #[.slice A n c,.slice A' n' c'] w (.bool (decide (l=l'))):Prop) :=
 (zqe A A' l l' n n' c c' _ w hb.len hb'.len hb.rd hb'.rd (by have:=hb.cap;have:=hb.most;unfold maxLen;omega)).mono fun _ _ ⟨h,k,hk⟩=>⟨h,by subst hk;exact (Ext.refl _).drewN k⟩
theorem zcy (A:Option Addr) (l:List Nat) (n c:Nat) (w:World) (hb:By w A n c l) (hm:n≤140737488355328) :
 Calls Tryz.prog 108 #[.slice A n c] w fun e w'=>∃A' c',e=.returned (.slice A' n c')∧By w' A' n c' l∧Ext w w'∧w'.ownsRow w.heap.size 5 1 (.slice A' n c') n (vb l) :=
 (zqp A l n c _ w hb.len hb.rd (Bs.nil_ hb) hm).mono fun _ _ ⟨A',c',h1,_,_,h4,h5⟩=>⟨A',c',h1,Bs.of_own h4 hb.rd.lt,h5,h4⟩
theorem zak {P:Program} {w:World} {ops:Array Oper} {rest:List Oper} {o:Oper} {a:Act} {Q:Exit→Act→World→Prop} (hgd:o.guard=none) (s x:Operand) (t:TypeId)
 (ho:o.op=.call { callee:=.builtin .append,args:=#[s,x],argTypes:=#[t,t] })
 (base:Nat) (e:TypeId) (i:TypeInfo) (ht:P.underlying t=some (.slice e)) (hi:P.info? e=some i) (hz:i.zero=some (.int .u8 0))
 (hsize:i.size=1) (hby:i.bytes=1)
 (v:Value) (n:Nat) (xs:List Value) (hs:a.eval s=v) (hown:w.ownsRow base e 1 v n xs)
 (A:Option Addr) (m c:Nat) (l:List Nat) (hx:a.eval x=.slice A m c) (hb:By w A m c l)
 (hbytes:n+m≤140737488355328) (hbase:base≤w.heap.size)
 (h:∀v' w',w'.ownsRow base e 1 v' (n+m) (xs++vb l)→w.grownBy w' v.ownBlock→wpList P ops Q rest (a.put o.dst v') w'):wpList P ops Q (o :: rest) a w:=by
 cases A with
 | none =>
  obtain rfl:=Bs.nil_ hb rfl
  have hm:m=0:=by have:=hb.cap;omega
  subst hm
  have hl:l=[]:=List.eq_nil_of_length_eq_zero hb.len
  subst hl
  refine wpList_append_own_none hgd s x t ho base e i 1 ht hi v n xs hs hown hx ?_
  exact h v w (by simpa [vb] using hown) (World.grownBy.refl _ _)
 | some ad =>
  refine wpList_append_own w hgd s x t ho base e i (.int .u8 0) 1 1 ht hi hz hsize hby rfl (by decide) v n xs hs hown ad m c (vb l) hx (by rw [zag,hb.len];omega) ?_ (zde l) (by unfold maxLen;omega) (by omega) hbase fun v' w' h1 h2 _=>h v' w' h1 h2
  intro j u hj
  rw [zdz] at hj
  obtain ⟨y,hy,rfl⟩:=Option.map_eq_some_iff.1 hj
  have hjl:j<l.length:=(List.getElem?_eq_some_iff.1 hy).1
  obtain ⟨g,o',z,hA,_,hz',_,hc⟩:=hb.rd.at_ hjl
  injection hA with hA
  subst hA
  rw [hy] at hz'
  injection hz' with hz'
  subst hz'
  rw [Addr.add_lit,hc]
theorem zbL {w0 w1 w2:World} {v v2:Value} {e n m:Nat} {xs:List Value} {l1 l2:List Nat} (hx:Ext w0 w1) (hown:w1.ownsRow w0.heap.size e 1 v n xs) (hg:w1.grownBy w2 v.ownBlock)
 (h2:w2.ownsRow w0.heap.size e 1 v2 m (vb l1++vb l2)) (hb1:∀b∈l1,b<256) (hb2:∀b∈l2,b<256) :
 Ext w0 w2∧∃A c,v2=.slice A m c∧By w2 A m c (l1++l2)∧w2.ownsRow w0.heap.size e 1 (.slice A m c) m (vb (l1++l2)):=by
 refine ⟨Below.grown hx hg (Ext.size hx) (fun g hg'=>(hown.lt g hg').1),?_⟩
 obtain ⟨A,c,rfl,_,_⟩:=zbK h2
 rw [←zew] at h2
 exact ⟨A,c,rfl,Bs.of_own h2 (by intro b hb;rcases List.mem_append.1 hb with h | h;exact hb1 b h;exact hb2 b h),h2⟩
theorem zcN (s:Int) (w:World) :
 (cQ 127 #[.int .i64 s] w (.int .i64 (roomN s)):Prop):=by
 by_cases h1:s=1
 ·subst h1
  go_enter Tryz.func127,Tryz.ntmps127
  go_wp2_with fail
  go_ret
  exact ⟨rfl,rfl⟩
 ·by_cases h2:s=2
  ·subst h2
   go_enter Tryz.func127,Tryz.ntmps127
   go_wp2_with fail
   go_ret
   exact ⟨rfl,rfl⟩
  ·have g1:(s != 1)=true:=by simp;omega
   have g2:(s != 2)=true:=by simp;omega
   have HF:=qj (zek h1 h2)
   clear h1 h2
   go_enter Tryz.func127,Tryz.ntmps127
   go_wp2_with fail
   go_ret
   exact ⟨by rw [HF.out];rfl,rfl⟩
theorem zaW (s:Int) (w:World) :
 (cQ 95 #[.int .i64 s] w (.int .i64 (roomN s)):Prop):=by
 by_cases h1:s=1
 ·subst h1
  go_enter Tryz.func95,Tryz.ntmps95
  go_wp2_with fail
  go_ret
  exact ⟨rfl,rfl⟩
 ·by_cases h2:s=2
  ·subst h2
   go_enter Tryz.func95,Tryz.ntmps95
   go_wp2_with fail
   go_ret
   exact ⟨rfl,rfl⟩
  ·have g1:(s == 1)=false:=by simp;omega
   have g2:(s == 2)=false:=by simp;omega
   have HF:=qj (zek h1 h2)
   clear h1 h2
   go_enter Tryz.func95,Tryz.ntmps95
   go_wp2_with fail
   go_ret
   exact ⟨by rw [HF.out];rfl,rfl⟩
def wsN (n:Nat):Nat:=if n%64=0 then n/64 else 0
theorem zfS (A:Option Addr) (n c:Nat) (w:World) (hn:n≤9223372036854775807) :
 (cQ 192 #[.slice A n c] w (.int .i64 (wsN n:Nat)):Prop):=by
 by_cases h:n%64=0
 ·have HF:Hid (wsN n=n/64):=qj (by unfold wsN;rw [if_pos h])
  go_enter Tryz.func192,Tryz.ntmps192
  go_wp2_with fail
  go_ret
  exact ⟨by rw [HF.out];rfl,rfl⟩
 ·have HF:Hid (wsN n=0):=qj (by unfold wsN;rw [if_neg h])
  go_enter Tryz.func192,Tryz.ntmps192
  go_wp2_with fail
  go_ret
  exact ⟨by rw [HF.out];rfl,rfl⟩
theorem zhI {l:List Nat} {k:Nat} (h:zaO (l.take k)=true) (hx:l[k]?=some 0):zaO (l.take (k+1))=true:=by
 unfold zaO at h ⊢
 rw [List.take_add_one,hx]
 simp only [Option.toList_some,List.all_append,h,Bool.true_and]
 rfl
theorem zqH {l:List Nat} {k x:Nat} (hx:l[k]?=some x) (h:x≠0):zaO l=false:=by
 unfold zaO
 rw [List.all_eq_false]
 exact ⟨x,List.mem_of_getElem? hx,by simpa using h⟩
theorem zfR (A:Option Addr) (n c:Nat) (l:List Nat) (w:World) (hb:By w A n c l) :
 (cQ 188 #[.slice A n c] w (.bool (zaO l)):Prop):=by
 have hn:n≤9223372036854775807:=Nat.le_trans (Bs.cap hb) (Bs.most hb)
 have HB:=qj hb
 clear hb
 go_enter Tryz.func188,Tryz.ntmps188
 go_wp2_with fail
 go_loop [3] (fun i=>∃k:Nat,k≤n∧i=.int .i64 k∧Hid (zaO (l.take k)=true)) (fun i=>n-(intOf i).toNat)
 case atStart=>exact ⟨0,Nat.zero_le _,rfl,qj rfl⟩
 case round =>
  obtain ⟨k,hk,rfl,HZ⟩:=hrel
  by_cases hlt:k<n
  ·obtain ⟨g,o,x,hA,_,hx,hx2,hcx⟩:=HB.out.rd.at_ (k:=k) (by rw [HB.out.len];exact hlt)
   subst hA
   by_cases h0:x=0
   ·subst h0
    have HZ2:=qj (zhI HZ.out hx)
    clear hx
    go_wp2_with fail
    go_round
    case rel=>exact ⟨k+1,by omega,by go_num,HZ2⟩
    case measure=>simp [intOf];omega
   ·have HF:=qj (zqH hx h0)
    have hb0:((x:Int) != 0)=true:=by simp;omega
    clear hx h0
    go_wp2_with fail
    go_ret
    exact ⟨by rw [HF.out];rfl,rfl⟩
  ·have HF:Hid (zaO l=true):=by
    have:=HZ.out
    rw [List.take_of_length_le (by have:=HB.out.len;omega)] at this
    exact qj this
   go_wp2_with fail
   go_ret
   exact ⟨by rw [HF.out];rfl,rfl⟩
section
open Go Go.RowKit Go.Lib
theorem By.cells {w:World} {A:Option Addr} {n c:Nat} {l:List Nat} (h:By w A n c l) {ad:Addr} (hA:A=some ad):∀i,i<n→w.cell? (ad.add i)=some (.int .u8 ((l.map fun (b:Nat)=>(b:Int)).getD i 0)):=by
 intro i hi
 obtain ⟨g,o,x,hA2,_,hx,_,hc⟩:=h.rd.at_ (k:=i) (by rw [h.len];exact hi)
 rw [hA] at hA2
 injection hA2 with hA2
 subst hA2
 rw [Addr.add_lit,hc]
 have e:(l.map fun (b:Nat)=>(b:Int)).getD i 0=(x:Int):=by
  rw [List.getD_eq_getElem?_getD,List.getElem?_map,hx]
  rfl
 rw [e]
theorem zlB {l l':List Nat} (hl:∀b∈l,b<256) (hl':∀b∈l',b<256) (h:bytesOf (l.map fun (b:Nat)=>(b:Int))=bytesOf (l'.map fun (b:Nat)=>(b:Int))):l=l':=by
 unfold bytesOf at h
 rw [List.map_map,List.map_map] at h
 have hlen:l.length=l'.length:=by
  have:=congrArg List.length h
  simpa using this
 refine List.ext_getElem hlen fun i h1 h2=>?_
 have e:=congrArg (fun z=>z[i]?) h
 simp only [List.getElem?_map,List.getElem?_eq_getElem h1,List.getElem?_eq_getElem h2,Option.map_some,Option.some.injEq,Function.comp,Int.toNat_natCast] at e
 have b1:=hl _ (List.getElem_mem h1)
 have b2:=hl' _ (List.getElem_mem h2)
 have e2:=congrArg UInt8.toNat e
 simp only [UInt8.toNat_ofNat'] at e2
 omega
theorem zmn {l:List Nat} (hl:∀b∈l,b<256):(((countByte (bytesOf (l.map fun (b:Nat)=>(b:Int))) (Int.toNat 0).toUInt8:Nat):Int) == (l.length:Int))=zaO l:=by
 have e:countByte (bytesOf (l.map fun (b:Nat)=>(b:Int))) (Int.toNat 0).toUInt8=l.countP (fun x=>x == 0):=by
  unfold countByte bytesOf
  rw [List.count,List.map_map,List.countP_map]
  refine List.countP_congr fun x hx=>?_
  have hb:=hl x hx
  simp only [Function.comp,Int.toNat_natCast,beq_iff_eq]
  constructor
  ·intro h
   have:=congrArg UInt8.toNat h
   simp at this
   omega
  ·rintro rfl
   rfl
 rw [e]
 by_cases h:zaO l=true
 ·have:l.countP (fun x=>x == 0)=l.length:=by
   rw [List.countP_eq_length]
   exact fun a ha=>List.all_eq_true.1 h a ha
  rw [this,h]
  simp
 ·have h':zaO l=false:=by simpa using h
  rw [h']
  have:l.countP (fun x=>x == 0)≠l.length:=by
   rw [Ne,List.countP_eq_length]
   intro hh
   exact h (List.all_eq_true.2 hh)
  simp
  omega
theorem znr {w:World} {A:Option Addr} {n c:Nat} {l:List Nat} (h:By w A n c l):(convert 45 9 (.slice A n c)).run Tryz.prog w=.ok (.string (strOfNums (l.map fun (b:Nat)=>(b:Int)))) w:=by
 by_cases hn:n=0
 ·subst hn
  have hl0:l=[]:=List.eq_nil_of_length_eq_zero h.len
  subst hl0
  exact run_convert_bytes_zero w 45 5 Tryz.underlying45 Tryz.underlying5 A c _ Tryz.underlying9
 ·obtain ⟨g,o,x,hA,_⟩:=h.rd.at_ (k:=0) (by rw [h.len];omega)
  subst hA
  exact run_convert_bytes_arg (P:=Tryz.prog) w 45 5 Tryz.underlying45 Tryz.underlying5 g o n c (l.map fun (b:Nat)=>(b:Int)) (by rw [List.length_map,h.len]) (fun i hi=>by have:=h.cells rfl i hi;rwa [Addr.add_lit] at this) _ Tryz.underlying9
theorem zqO (A A':Option Addr) (l l':List Nat) (n n' c c':Nat) (w:World) (hb:By w A n c l) (hb':By w A' n' c' l') :
 (cQ 196 #[.slice A n c,.slice A' n' c'] w (.bool (decide (l=l'))):Prop):=by
 have h1:=znr hb
 have h2:=znr hb'
 have HF:Hid (decide (l=l')=((strOfNums (l.map fun (b:Nat)=>(b:Int))).toList == (strOfNums (l'.map fun (b:Nat)=>(b:Int))).toList)):=by
  refine qj ?_
  rw [strOfNums_toList,strOfNums_toList]
  by_cases h:l=l'
  ·subst h;simp
  ·rw [decide_eq_false h]
   symm
   rw [beq_eq_false_iff_ne]
   exact fun hh=>h (zlB hb.rd.lt hb'.rd.lt hh)
 clear hb hb'
 go_enter Tryz.func196,Tryz.ntmps196
 go_wp2_with fail
 go_ret
 exact ⟨by rw [HF.out];rfl,rfl⟩
theorem zrh (w:World):(w.alloc (.cells #[] 5)).ownsRow w.heap.size 5 1 (.slice (some ⟨w.heap.size,0,none⟩) 0 0) 0 (vb []):=World.ownsRow_made w #[] 0 (Nat.le_refl _) (Nat.zero_le _) rfl
theorem zrR (A:Option Addr) (l:List Nat) (n c:Nat) (w:World) (hb:By w A n c l) (hm:n≤140737488355328) :
 Calls Tryz.prog 195 #[.slice A n c] w fun e w'=>∃A' c',e=.returned (.slice A' n c')∧By w' A' n c' l∧Ext w w'∧w'.ownsRow w.heap.size 5 1 (.slice A' n c') n (vb l):=by
 obtain ⟨i0,hi,hz0,hz1,hz2⟩:=info_parts zay
 have q22:∀(w:World) (a:Option Addr) (n c n' c':Nat),(binOp .eql 45 (.slice a n c) (.slice none n' c')).run Tryz.prog w=.ok (.bool a.isNone) w:=fun w a n c n' c'=>Lib.run_eql_slice_nil w _ _ a n c n' c' Tryz.underlying45
 have HB:=qj hb
 cases A with
 | none =>
  obtain rfl:=Bs.nil_ hb rfl
  have hn:n=0:=by have:=Bs.cap hb;omega
  subst hn
  have hl0:l=[]:=List.eq_nil_of_length_eq_zero (Bs.len hb)
  subst hl0
  clear hb
  go_enter Tryz.func195,Tryz.ntmps195
  go_wp2_with fail
  go_ret
  exact ⟨none,0,rfl,By.nil_ _,Ext.refl _,World.ownsRow_nil _ _ _ _⟩
 | some ad =>
  have HX:=qj ((Ext.refl w).alloc (.cells #[] 5))
  have HO:=qj (zrh w)
  clear hb
  go_enter Tryz.func195,Tryz.ntmps195
  go_wp2_with (at_builtin;refine zak rfl _ _ 45 rfl w.heap.size 5 i0 Tryz.underlying45 hi hz0 hz1 hz2 _ 0 (vb []) rfl HO.out (some ad) n c l rfl (HB.out.ext HX.out) (by omega) (Ext.size HX.out) ?_)
  intro v2 w2 hown hg
  obtain ⟨hx,A2,c2,rfl,hb2,ho2⟩:=zbL (l1:=[]) HX.out HO.out hg hown (by simp) HB.out.rd.lt
  have HX2:=qj hx
  have HB2:=qj hb2
  have HO2:=qj ho2
  clear hx hb2 ho2 hown hg
  go_wp2_with fail
  go_ret
  exact ⟨A2,c2,rfl,HB2.out,HX2.out,HO2.out⟩
set_option maxRecDepth 1000000 in
theorem zpB (A:Option Addr) (l:List Nat) (n c g o d:Nat) (w:World) (hb:By w A n c l) (hc:w.cell? (aD g o)=some (.int .u8 0)) :
 (cQ 199 #[.slice A n c,.slice (some ⟨g,o,none⟩) 1 d] w (.int .i64 ((countByte (bytesOf (l.map fun (b:Nat)=>(b:Int))) (Int.toNat 0).toUInt8:Nat):Int)):Prop):=by
 have HB:=qj hb
 clear hb
 cases A with
 | none =>
  obtain rfl:=Bs.nil_ HB.out rfl
  have hn:n=0:=by have:=Bs.cap HB.out;omega
  subst hn
  have hl0:l=[]:=List.eq_nil_of_length_eq_zero (Bs.len HB.out)
  subst hl0
  go_enter Tryz.func199,Tryz.ntmps199
  go_wp2_with fail
  rw [run_callFunc_extern Tryz.func203 (by kernel_rfl) (by kernel_rfl) (by kernel_rfl) (e:=Extern.BytealgCount.count) (by kernel_rfl),Lib.run_countNil w 0 0 0]
  simp only [Result.andThen]
  rw [Oper.upon_value]
  go_wp2_with fail
  go_ret
  exact ⟨rfl,rfl⟩
 | some ad =>
  have hcells:=HB.out.cells rfl
  have HC:=qj (Lib.run_countAt (P:=Tryz.prog) w ad n c (l.map fun (b:Nat)=>(b:Int)) (by rw [List.length_map,HB.out.len]) hcells 0)
  clear hcells
  go_enter Tryz.func199,Tryz.ntmps199
  go_wp2_with fail
  rw [run_callFunc_extern Tryz.func203 (by kernel_rfl) (by kernel_rfl) (by kernel_rfl) (e:=Extern.BytealgCount.count) (by kernel_rfl),HC.out]
  simp only [Result.andThen]
  rw [Oper.upon_value]
  go_wp2_with fail
  go_ret
  exact ⟨rfl,rfl⟩
theorem zhl (A:Option Addr) (n c:Nat) (l:List Nat) (w:World) (hb:By w A n c l) :
 (cL 193 #[.slice A n c] w (.bool (zaO l)):Prop):=by
 have HX:=qj ((Ext.refl w).alloc (.cells #[.int .u8 0] 5))
 have HC:Hid ((w.alloc (.cells #[.int .u8 0] 5)).cell? (aD w.heap.size 0)=some (.int .u8 0)):=qj (cell_of_row _ w.heap.size 0 _ 5 (0,0) (heap_alloc_new w _))
 have HN:Hid (l.length=n):=qj (Bs.len hb)
 have HF:=qj (zmn (Bs.rd hb).lt)
 have HB:=qj hb
 clear hb
 go_enter Tryz.func193,Tryz.ntmps193
 go_wp2_with fail
 refine (zpB A l n c w.heap.size 0 1 _ (HB.out.ext HX.out) HC.out).mono ?_
 rintro e w' ⟨rfl,rfl⟩
 generalize countByte (bytesOf (l.map fun (b:Nat)=>(b:Int))) (Int.toNat 0).toUInt8=k at *
 go_wp2_with fail
 go_ret
 exact ⟨by rw [←HF.out,HN.out];rfl,HX.out⟩
end
def zbo (w:World):Prop:=∀r:Nat,r<6→w.cell? ⟨1,r * 2,none⟩=some (.int .i64 (plc r))∧w.cell? ⟨1,r * 2+1,none⟩=some (.int .i64 (wid r))
theorem zbo.ext {a b:World} (h:zbo a) (k:Ext a b):zbo b:=by
 have hlt:1<a.heap.size:=World.block_lt_of_cell? a _ (h 0 (by omega)).1
 exact fun r hr=>⟨(Below.cell k (p:=⟨_,_,none⟩) hlt).trans (h r hr).1,(Below.cell k (p:=⟨_,_,none⟩) hlt).trans (h r hr).2⟩
theorem zgN (a n b:Int) (w:World) :
 (cQ 172 #[a,n,b] w (.int .i64 (max a (min n b))):Prop):=by
 have fin:∀x y:Int,x=y→Ending.returned (Value.int .i64 x)=.returned y:=fun x y h=>by rw [h]
 go_enter Tryz.func172,Tryz.ntmps172
 go_wp2
 all_goals (go_ret;refine ⟨fin _ _ ?_,rfl⟩;omega)
theorem zoG (r:Int) (k p q:Nat) (w:World) (hr:r=k) (hk:k<6) (hp:p=plc r) (hq:q=wid r) (h0:w.cell? (aD 1 (k * 2))=some (.int .i64 p)) (h1:w.cell? (aD 1 (k * 2+1))=some (.int .i64 q)) :
 (cL 113 #[.int .i64 r] w (.agg #[.int .i64 p,.int .i64 q]):Prop):=by
 subst hr
 have HP:=qj hp
 have HQ:=qj hq
 have hb:=World.block_lt_of_cell? w _ h0
 have g0:=(Below.cell ((Ext.refl w).alloc (.cells Zk.e 169)) hb).trans h0
 have g1:=(Below.cell ((Ext.refl w).alloc (.cells Zk.e 169)) (p:=⟨1,k * 2+1,none⟩) hb).trans h1
 clear hb h0 h1 hp hq
 go_enter Tryz.func113,Tryz.ntmps113
 go_wp2
 exact bodyPost_ret (v:=.agg #[.int .i64 p,.int .i64 q]) (by simp [results,Tryz.results113,go_sem]) rfl ⟨rfl,(Ext.refl w).alloc _⟩
theorem zig (r:Int) (w:World) (hL:zbo w) :
 (cL 113 #[.int .i64 r] w (.agg #[.int .i64 (plc r),.int .i64 (wid r)]):Prop):=by
 by_cases hn:r<0
 ·have H1:=qj (zgz (r:=r) (.inl (by omega)))
  have H2:=qj (zjW (r:=r) (.inl (by omega)))
  go_enter Tryz.func113,Tryz.ntmps113
  go_wp2
  exact bodyPost_ret (v:=.agg Zk.e) (by simp [results,Tryz.results113,go_sem]) rfl ⟨by rw [H1.out,H2.out];rfl,(Ext.refl w).alloc _⟩
 by_cases hg:6≤r
 ·have H1:=qj (zgz (r:=r) (.inr (by omega)))
  have H2:=qj (zjW (r:=r) (.inr (by omega)))
  go_enter Tryz.func113,Tryz.ntmps113
  go_wp2
  exact bodyPost_ret (v:=.agg Zk.e) (by simp [results,Tryz.results113,go_sem]) rfl ⟨by rw [H1.out,H2.out];rfl,(Ext.refl w).alloc _⟩
 obtain ⟨r,rfl⟩:=Int.eq_ofNat_of_zero_le (show 0≤r by omega)
 exact zoG r r _ _ w rfl (by omega) rfl rfl (hL r (by omega)).1 (hL r (by omega)).2
theorem zln (x y:Value) (w:World):(Instr.field 169 (.agg #[x,y]) 0).run Tryz.prog w=.ok x w:=by kernel_rfl
theorem zlA (x y:Value) (w:World):(Instr.field 169 (.agg #[x,y]) 1).run Tryz.prog w=.ok y w:=by kernel_rfl
theorem zeQ (r:Int) (w:World) (hL:zbo w) :
 (cL 99 #[.int .i64 r] w (.int .i64 (plc r)):Prop):=by
 have HL:=qj hL
 have hf:=zln
 clear hL
 go_enter Tryz.func99,Tryz.ntmps99
 go_wp2_with fail
 refine (zig r _ HL.out).mono ?_
 rintro e w1 ⟨rfl,hx⟩
 have HX:=qj hx
 clear hx
 go_wp2_with fail
 go_ret
 exact ⟨rfl,HX.out⟩
def zbO (w:World) (g:Nat) (a b c d e:Int) (w':World):Prop :=
 w'.cell? ⟨g,0,none⟩=some (.int .i64 a)∧w'.cell? ⟨g,1,none⟩=some (.int .i64 b)∧w'.cell? ⟨g,2,none⟩=some (.int .i64 c)∧w'.cell? ⟨g,3,none⟩=some (.int .i64 d)∧w'.cell? ⟨g,4,none⟩=some (.int .i64 e) ∧
  Hid (zbo w'∧Ext w w'∧w.heap.size≤g∧1<g∧∃X:Array Value,X.size=5∧w'.heap[g+1]?=some (.cells X 44 (0,0)))
theorem zbO.ext {w w' w1:World} {g:Nat} {a b c d e:Int} (h:zbO w g a b c d e w') (k:Ext w' w1):zbO w g a b c d e w1:=by
 obtain ⟨h0,h1,h2,h3,h4,⟨hL,hE,hg,hg2,X,hX,hh⟩⟩:=h
 have hlt:g<w'.heap.size:=by have:=World.block_lt_of_cell? w' _ h0;simpa using this
 exact ⟨(Below.cell k (p:=⟨g,0,none⟩) hlt).trans h0,(Below.cell k (p:=⟨g,1,none⟩) hlt).trans h1,(Below.cell k (p:=⟨g,2,none⟩) hlt).trans h2,(Below.cell k (p:=⟨g,3,none⟩) hlt).trans h3,(Below.cell k (p:=⟨g,4,none⟩) hlt).trans h4,
  ⟨hL.ext k,hE.trans k,hg,hg2,X,hX,(k.block (g+1) (Array.getElem?_eq_some_iff.1 hh).1).trans hh⟩⟩
theorem zbO.drew {w w':World} {g:Nat} {a b c d e:Int} (h:zbO w g a b c d e w'):zbO w g a b c d e w'.drew:=h.ext ((Ext.refl w').drew)
theorem zbO.laid {w w':World} {g:Nat} {a b c d e:Int} (h:zbO w g a b c d e w'):zbo w':=h.2.2.2.2.2.out.1
theorem zbO.row {w w':World} {g:Nat} {a b c d e:Int} (h:zbO w g a b c d e w'):∃X:Array Value,X.size=5∧w'.heap[g+1]?=some (.cells X 44 (0,0)):=h.2.2.2.2.2.out.2.2.2.2
theorem zbO.kept {w w':World} {g:Nat} {a b c d e:Int} (h:zbO w g a b c d e w'):Ext w w':=h.2.2.2.2.2.out.2.1
theorem zbO.free {w w':World} {g:Nat} {a b c d e:Int} (h:zbO w g a b c d e w') (i:Nat) (hi:i<5):(∃v,w'.cell? (aD (g+1) i)=some v)∧w'.frozen? (aD (g+1) i)=false:=by
 obtain ⟨X,hX,hh⟩:=h.row
 refine ⟨⟨X[i],?_⟩,?_⟩
 ·rw [cell_of_row w' (g+1) i X _ _ hh,Array.getElem?_eq_getElem (by omega)]
 ·exact frozen_of_row w' (g+1) i X _ hh
theorem zbO.all {w w':World} {g:Nat} {a b c d e:Int} (h:zbO w g a b c d e w'):((CW.mk w' g [a,b,c,d,e]:Prop)) ∧
 ∃x0 x1 x2 x3 x4,w'.cell? (aD (g+1) 0)=some x0∧w'.cell? (aD (g+1) 1)=some x1∧w'.cell? (aD (g+1) 2)=some x2∧w'.cell? (aD (g+1) 3)=some x3∧w'.cell? (aD (g+1) 4)=some x4 ∧
  w'.frozen? (aD (g+1) 0)=false∧w'.frozen? (aD (g+1) 1)=false∧w'.frozen? (aD (g+1) 2)=false∧w'.frozen? (aD (g+1) 3)=false∧w'.frozen? (aD (g+1) 4)=false:=by
 obtain ⟨⟨x0,c0⟩,f0⟩:=h.free 0 (by omega)
 obtain ⟨⟨x1,c1⟩,f1⟩:=h.free 1 (by omega)
 obtain ⟨⟨x2,c2⟩,f2⟩:=h.free 2 (by omega)
 obtain ⟨⟨x3,c3⟩,f3⟩:=h.free 3 (by omega)
 obtain ⟨⟨x4,c4⟩,f4⟩:=h.free 4 (by omega)
 exact ⟨⟨h.1,h.2.1,h.2.2.1,h.2.2.2.1,h.2.2.2.2.1⟩,x0,x1,x2,x3,x4,c0,c1,c2,c3,c4,f0,f1,f2,f3,f4⟩
theorem zmw (w:World) (hL:zbo w) (a b c d e:Int) (Y:Array Value) (hY:Y.size=5):zbO w w.heap.size a b c d e ((w.alloc (.cells #[a,b,c,d,e] 44)).alloc (.cells Y 44)):=by
 have hE:=((Ext.refl w).alloc (.cells #[a,b,c,d,e] 44))
 have hE2:=(Ext.refl (w.alloc (.cells #[a,b,c,d,e] 44))).alloc (.cells Y 44)
 have hc:=fun i=>(Below.cell hE2 (p:=⟨w.heap.size,i,none⟩) (by simp)).trans (cell_of_row _ w.heap.size i _ 44 (0,0) (heap_alloc_new w _))
 have hlt:1<w.heap.size:=World.block_lt_of_cell? w _ (hL 0 (by omega)).1
 exact ⟨hc 0,hc 1,hc 2,hc 3,hc 4,⟨hL.ext (hE.trans hE2),hE.trans hE2,Nat.le_refl _,hlt,Y,hY,heap_alloc2_new w _ _⟩⟩
theorem zkI (a b c d e:Int) (w:World) (hL:zbo w) :
 Calls Tryz.prog 147 #[.agg #[a,b,c,d,e]] w fun r w'=>r=.returned (.agg #[.int .i64 (nrA a),.int .i64 (nrR b),.int .i64 (nrC b c),.int .i64 (nrD d),.int .i64 (nrE e)])∧Ext w w':=by
 have HS:=qj (zmw w hL a b c d e Zk.c rfl)
 clear hL
 go_enter Tryz.func147,Tryz.ntmps147
 go_wp2_with fail
 refine (zgN _ _ _ _).mono ?_
 rintro e' w' ⟨rfl,rfl⟩
 go_wp2_with fail
 have hplc:=zeZ (nrR b)
 have hsub:IntKind.i64.wrap ((plc (nrR b):Int)-1)=(plc (nrR b):Int)-1:=IntWalk.i64_in _ (by omega)
 clear hplc
 rw [show max 1 (min b 5)=nrR b from rfl]
 generalize ((w.alloc (.cells #[a,b,c,d,e] 44)).alloc (.cells Zk.c 44))=W at *
 have hS:=HS.out.drew
 clear HS
 generalize w.heap.size=g at *
 have hS':=hS
 obtain ⟨i0,i1,i2,i3,i4,_⟩:=hS'
 go_region_held3 (fun w'=>(CW.mk w' g [a,b,c,d,e]:Prop))
  (first | with_reducible exact ⟨i0,i1,i2,i3,i4⟩ | with_reducible exact ⟨j0,j1,j2,j3,j4⟩ | go_keep)
  (first
   | (go_at_call 172;((with_reducible refine (zgN _ _ _ _).mono ?_);rintro e' w' ⟨rfl,rfl⟩))
   | (go_at_call 99;((with_reducible refine (zeQ _ _ hS.laid).mono ?_);rintro e' w' ⟨rfl,hx⟩;obtain ⟨⟨j0,j1,j2,j3,j4⟩,x0,x1,x2,x3,x4,c0,c1,c2,c3,c4,f0,f1,f2,f3,f4⟩:=zbO.all (zbO.ext hS hx))))
 have HE:=qj (hS.kept.trans hx)
 have HG:=qj hS.2.2.2.2.2.out.2.2.1
 clear hS i0 i1 i2 i3 i4 hx hsub j0 j1 j2 j3 j4
 go_wp2_with fail
 refine bodyPost_ret (v:=.agg #[.int .i64 (nrA a),.int .i64 (nrR b),.int .i64 (nrC b c),.int .i64 (nrD d),.int .i64 (nrE e)]) ?_ rfl ⟨rfl,?_⟩
 ·simp [results,Tryz.results147,go_sem,c0,c1,c2,c3,c4]
  exact ⟨rfl,rfl,rfl,rfl⟩
 ·have hg:w.heap.size≤g+1:=Nat.le_succ_of_le HG.out
  exact ((((HE.out.setCell (p:=⟨g+1,0,none⟩) hg _).setCell (p:=⟨g+1,1,none⟩) hg _).setCell (p:=⟨g+1,2,none⟩) hg _).setCell (p:=⟨g+1,3,none⟩) hg _).setCell (p:=⟨g+1,4,none⟩) hg _
theorem zsv (a b c d e a' b' c' d' e':Int) (w:World):(binOp .eql 44 (.agg #[a,b,c,d,e]) (.agg #[a',b',c',d',e'])).run Tryz.prog w =
 .ok (.bool (a == a' && (b == b' && (c == c' && (d == d' && e == e'))))) w:=by
 have hf:Tryz.prog.stoodInHeld 44=false:=by kernel_rfl
 have hu:=Tryz.underlying44
 rw [run_eql_struct,run_equalIn_agg _ _ _ _ _ (by rw [Program.fieldsOf,hu]) hf,Program.fieldsOf,hu]
 simp [Op.eqFields,go_sem]
 by_cases h1:a=a' <;> by_cases h2:b=b' <;> by_cases h3:c=c' <;> by_cases h4:d=d' <;> by_cases h5:e=e' <;> simp [h1,h2,h3,h4,h5]
theorem zur (a b c d e:Int):(a == nrA a && (b == nrR b && (c == nrC b c && (d == nrD d && e == nrE e))))=mayB a b c d e:=by
 rw [Bool.eq_iff_iff,←zpy]
 simp
theorem Ext.cell {a b:World} {p:Addr} {v:Value} (k:Ext a b) (h:a.cell? p=some v):b.cell? p=some v:=(Below.cell k (World.block_lt_of_cell? a _ h)).trans h
theorem zcw (a b c d e:Int) (w:World) (hL:zbo w) :
 Calls Tryz.prog 97 #[.agg #[a,b,c,d,e]] w fun r w'=>r=.returned (.bool (mayB a b c d e))∧Ext w w':=by
 have hE:=(Ext.refl w).alloc (.cells #[a,b,c,d,e] 44)
 have hL1:=hL.ext hE
 have hc:=fun i=>(cell_of_row _ w.heap.size i _ 44 (0,0) (heap_alloc_new w (.cells #[a,b,c,d,e] 44)))
 have i0:(w.alloc (.cells #[a,b,c,d,e] 44)).cell? (aD w.heap.size 0)=some (.int .i64 a):=hc 0
 have i1:(w.alloc (.cells #[a,b,c,d,e] 44)).cell? (aD w.heap.size 1)=some (.int .i64 b):=hc 1
 have i2:(w.alloc (.cells #[a,b,c,d,e] 44)).cell? (aD w.heap.size 2)=some (.int .i64 c):=hc 2
 have i3:(w.alloc (.cells #[a,b,c,d,e] 44)).cell? (aD w.heap.size 3)=some (.int .i64 d):=hc 3
 have i4:(w.alloc (.cells #[a,b,c,d,e] 44)).cell? (aD w.heap.size 4)=some (.int .i64 e):=hc 4
 have HL:=qj hL1
 have HE:=qj hE
 have HM:=qj (zur a b c d e)
 have hq:=zsv a b c d e (nrA a) (nrR b) (nrC b c) (nrD d) (nrE e)
 have hg:Tryz.prog.eqGuardType Tryz.prog.depth 44=false:=by kernel_rfl
 clear hL hE hL1 hc
 go_enter Tryz.func97,Tryz.ntmps97
 go_wp2_with fail
 generalize (w.alloc (.cells #[a,b,c,d,e] 44))=W at *
 generalize w.heap.size=g at *
 go_region_held3 (fun w'=>(CW.mk w' g [a,b,c,d,e]:Prop))
  (first | with_reducible exact ⟨i0,i1,i2,i3,i4⟩ | exact ⟨Ext.cell hx i0,Ext.cell hx i1,Ext.cell hx i2,Ext.cell hx i3,Ext.cell hx i4⟩ | go_keep)
  (first
   | (go_at_call 147;((with_reducible refine (zkI _ _ _ _ _ _ (HL.out.ext ((Ext.refl _).drew))).mono ?_);rintro r w' ⟨rfl,hx⟩)))
 rw [HM.out]
 have HE:=qj (HE.out.trans (((Ext.refl W).drew).trans hx))
 clear hx hq hg i0 i1 i2 i3 i4
 go_wp2_with fail
 go_ret
 exact ⟨rfl,HE.out⟩
theorem zcM (n:Nat) (z:Value):(Builtin.zeroCells #[z] n).size=n:=by
 simp [Builtin.zeroCells]
theorem zre (n:Nat) (w:World) (hn:n≤140737488355328) :
 Calls Tryz.prog 151 #[.slice none 0 0,.int .i64 n] w fun e w'=>∃v,e=.returned v∧w'.ownsRow w.heap.size 5 1 v 0 []∧Below w.heap.size w w':=by
 obtain ⟨i0,hi,hz0,hz1,hz2⟩:=info_parts zay
 by_cases h0:n=0
 ·subst h0
  go_enter Tryz.func151,Tryz.ntmps151
  go_wp2_with fail
  go_ret
  exact ⟨_,rfl,World.ownsRow_nil _ _ _ _,Below.refl _ _⟩
 ·have hrun:=fun ty=>Lib.run_append_nil_zeros (P:=Tryz.prog) w 45 3 ty 5 i0 (.int .u8 0) .i64 .i64 Tryz.underlying45 Tryz.underlying3 hi hz0 n (by omega) (by omega) (by omega) (by rw [hz2];omega)
  have HR:=qj hrun
  clear hrun
  have hcap:=grownCap_le_maxLen w n 0 5 (by unfold maxLen;omega)
  have hge:=grownCap_ge w n 0 5
  have hcs:(Builtin.zeroCells (Value.int .u8 0).cells n++Builtin.zeroCells (Value.int .u8 0).cells (grownCap w n 0 5-n)).size=grownCap w n 0 5 * 1:=by
   have e:(Value.int IntKind.u8 0).cells=#[Value.int .u8 0]:=rfl
   rw [e,Array.size_append,zcM,zcM]
   omega
  have HC:=qj hcs
  clear hcs
  have hmx:=hcap
  unfold maxLen at hmx
  generalize hgc:grownCap w n 0 5=gc at *
  generalize hcells:(Builtin.zeroCells (Value.int .u8 0).cells n++Builtin.zeroCells (Value.int .u8 0).cells (gc-n))=cells at *
  have HM:=qj hcap
  clear hgc hcells hcap
  go_enter Tryz.func151,Tryz.ntmps151
  go_wp2_with (at_builtin;refine Lib.wpList_append_run _ rfl _ _ _ _ rfl _ _ rfl rfl _ _ (HR.out _) ?_)
  go_ret
  exact ⟨_,rfl,(World.ownsRow_made w cells gc (Nat.le_refl _) HM.out HC.out),((Below.refl _ _).alloc (Nat.le_refl _) _).drew⟩
def cat (ps:List (Value × List Nat)):List Nat:=ps.flatMap (·.2)
theorem zhm {ps:List (Value × List Nat)} {k:Nat} {p:Value × List Nat} (h:ps[k]?=some p):cat (ps.take (k+1))=cat (ps.take k)++p.2:=by
 unfold cat
 rw [List.take_add_one,h,Option.toList_some,List.flatMap_append]
 simp
theorem zgx (ps:List (Value × List Nat)) (k:Nat):(cat (ps.take k)).length≤(cat ps).length:=by
 have e:cat ps=cat (ps.take k)++cat (ps.drop k):=by
  unfold cat
  rw [←List.flatMap_append,List.take_append_drop]
 rw [e,List.length_append]
 omega
structure Parts (w:World) (B:Nat) (G:Option Addr) (m:Nat) (ps:List (Value × List Nat)):Prop where
 len:ps.length=m
 at_:0<m→∃g o,G=some ⟨g,o,none⟩∧g<B∧∀j p,ps[j]?=some p→w.cell? ⟨g,o+j,none⟩=some p.1
 each:∀p∈ps,∃A n c,p.1=.slice A n c∧Bs w B A n c p.2
theorem Parts.below {w w':World} {B:Nat} {G:Option Addr} {m:Nat} {ps:List (Value × List Nat)} (h:Parts w B G m ps) (hb:Below B w w'):Parts w' B G m ps:=by
 refine ⟨h.len,fun hm=>?_,fun p hp=>?_⟩
 ·obtain ⟨g,o,e,hg,hc⟩:=h.at_ hm
  exact ⟨g,o,e,hg,fun j p hp=>(hb.cell (p:=⟨g,o+j,none⟩) hg).trans (hc j p hp)⟩
 ·obtain ⟨A,n,c,e,hbs⟩:=h.each p hp
  exact ⟨A,n,c,e,hbs.below hb⟩
theorem Parts.get {w:World} {B:Nat} {G:Option Addr} {m:Nat} {ps:List (Value × List Nat)} (h:Parts w B G m ps) {k:Nat} (hk:k<m) :
 ∃g o A n c l,G=some ⟨g,o,none⟩∧g<B∧ps[k]?=some (.slice A n c,l)∧w.cell? (aD g (o+k))=some (.slice A n c)∧Bs w B A n c l:=by
 obtain ⟨g,o,e,hg,hc⟩:=h.at_ (by omega)
 have hk':k<ps.length:=by rw [h.len];exact hk
 obtain ⟨A,n,c,e1,hbs⟩:=h.each ps[k] (List.getElem_mem hk')
 have hp:ps[k]?=some (.slice A n c,ps[k].2):=by rw [List.getElem?_eq_getElem hk',←e1]
 exact ⟨g,o,A,n,c,ps[k].2,e,hg,hp,hc k _ hp,hbs⟩
theorem zdC {ps:List (Value × List Nat)} {k n:Nat} {v:Value} {l:List Nat} (h:ps[k]?=some (v,l)) (hl:l.length=n):(cat (ps.take (k+1))).length=(cat (ps.take k)).length+n:=by
 rw [zhm h,List.length_append,hl]
theorem zlt {w wr w1:World} {ps:List (Value × List Nat)} {k n:Nat} {v v1 u:Value} {l:List Nat} (hp:ps[k]?=some (u,l)) (hl:l.length=n)
 (hown:wr.ownsRow w.heap.size 5 1 v (cat (ps.take k)).length (vb (cat (ps.take k)))) (hbel:Below w.heap.size w wr)
 (hown1:w1.ownsRow w.heap.size 5 1 v1 ((cat (ps.take k)).length+n) (vb (cat (ps.take k))++vb l)) (hg:wr.grownBy w1 v.ownBlock) :
 w1.ownsRow w.heap.size 5 1 v1 (cat (ps.take (k+1))).length (vb (cat (ps.take (k+1))))∧Below w.heap.size w w1:=by
 refine ⟨?_,?_⟩
 ·rw [zdC hp hl,zhm hp,zew]
  exact hown1
 ·refine hbel.grown hg hbel.size ?_
  intro g hg'
  exact (hown.lt g hg').1
theorem zlL (G:Option Addr) (m c:Nat) (ps:List (Value × List Nat)) (w:World) (hp:Parts w w.heap.size G m ps) (hm:m≤9000000000000000000) (ht:(cat ps).length≤140737488355328) :
 Calls Tryz.prog 119 #[.slice G m c] w fun e w'=>∃A' c',e=.returned (.slice A' (cat ps).length c')∧w'.ownsRow w.heap.size 5 1 (.slice A' (cat ps).length c') (cat ps).length (vb (cat ps))∧Below w.heap.size w w':=by
 obtain ⟨i0,hi,hz0,hz1,hz2⟩:=info_parts zay
 have HP:=qj hp
 clear hp
 go_enter Tryz.func119,Tryz.ntmps119
 go_wp2_with fail
 go_loop [3,11] (fun s i=>∃k:Nat,k≤m∧i=.int .i64 k∧s=.int .i64 (((cat (ps.take k)).length:Nat):Int)) (fun _ i=>m-(intOf i).toNat)
 case atStart=>exact ⟨0,Nat.zero_le _,rfl,rfl⟩
 case round =>
  obtain ⟨k,hk,rfl,rfl⟩:=hrel
  by_cases hlt:k<m
  ·obtain ⟨g,o,A,n,c1,l,hG,_,hpk,hcell,hbs⟩:=HP.out.get hlt
   subst hG
   have HS:=qj (zdC hpk hbs.len)
   have hle:(cat (ps.take (k+1))).length≤(cat ps).length:=zgx ps (k+1)
   rw [HS.out] at hle
   clear hpk hbs
   generalize hsn:(cat (ps.take k)).length=sn at *
   clear hsn
   go_wp2_with fail
   go_round
   case rel=>exact ⟨k+1,by omega,by go_num,by rw [HS.out];go_num⟩
   case measure=>simp [intOf];omega
  ·have HK:Hid (k=m):=qj (by omega)
   have e0:cat (ps.take k)=cat ps:=by rw [HK.out,List.take_of_length_le (by rw [HP.out.len];exact Nat.le_refl _)]
   rw [e0]
   clear e0
   go_wp2_with fail
   refine (zre (cat ps).length _ ht).mono ?_
   rintro e w1 ⟨v1,rfl,hown1,hbel1⟩
   have HO1:=qj hown1
   have HB1:=qj hbel1
   clear hown1 hbel1 HK
   go_wp2_with fail
   go_loopw [6,27] (fun v i wr=>∃k:Nat,k≤m∧i=.int .i64 k∧Hid (wr.ownsRow w.heap.size 5 1 v (cat (ps.take k)).length (vb (cat (ps.take k))))∧Hid (Below w.heap.size w wr)) (fun _ i _=>m-(intOf i).toNat)
   case atStart=>exact ⟨0,Nat.zero_le _,rfl,HO1,HB1⟩
   case round =>
    obtain ⟨k,hk,rfl,HO,HB⟩:=hrel
    by_cases hlt:k<m
    ·obtain ⟨g,o,A,n,c1,l,hG,_,hpk,hcell,hbs⟩:=(HP.out.below HB.out).get hlt
     subst hG
     have HBS:=qj hbs
     have HPK:=qj hpk
     have hle:(cat (ps.take (k+1))).length≤(cat ps).length:=zgx ps (k+1)
     rw [zdC hpk hbs.len] at hle
     have hsz:=HB.out.size
     clear hpk hbs
     rcases A with _ | ad
     ·have hc0:c1=0:=HBS.out.nil_ rfl
      subst hc0
      have hn0:n=0:=by have:=HBS.out.cap;omega
      subst hn0
      have hl0:l=[]:=List.eq_nil_of_length_eq_zero HBS.out.len
      subst hl0
      go_wp2_with (at_builtin;refine wpList_append_own_none rfl _ _ 45 rfl w.heap.size 5 i0 1 Tryz.underlying45 hi _ _ _ rfl HO.out rfl ?_)
      go_roundw
      case rel=>exact ⟨k+1,by omega,by go_num,qj (by have h:=HO.out;rw [zhm HPK.out];simpa using h),HB⟩
      case measure=>simp [intOf];omega
     ·go_wp2_with (at_builtin;refine wpList_append_own _ rfl _ _ 45 rfl w.heap.size 5 i0 (.int .u8 0) 1 1 Tryz.underlying45 hi hz0 hz1 hz2 rfl (by decide) _ _ _ rfl HO.out ad n c1 (vb l) rfl ?c1 ?c2 ?c3 ?c4 ?c5 ?c6 ?_)
      case c1=>rw [zag,HBS.out.len];omega
      case c2 =>
       intro j u hj
       rw [zdz] at hj
       obtain ⟨x,hx,rfl⟩:=Option.map_eq_some_iff.1 hj
       have hjl:j<l.length:=(List.getElem?_eq_some_iff.1 hx).1
       obtain ⟨g',o',y,hA,_,hy,_,hc⟩:=HBS.out.rd.at_ hjl
       injection hA with hA
       subst hA
       rw [hx] at hy
       injection hy with hy
       subst hy
       rw [Addr.add_lit,hc]
      case c3=>exact zde l
      case c4=>unfold maxLen;omega
      case c5=>omega
      case c6=>exact hsz
      intro v2 w2 hown hg _
      have R:=zlt HPK.out HBS.out.len HO.out HB.out hown hg
      have HO2:=qj R.1
      have HB2:=qj R.2
      clear hown hg R
      go_wp2_with fail
      go_roundw
      case rel=>exact ⟨k+1,by omega,by go_num,HO2,HB2⟩
      case measure=>simp [intOf];omega
    ·have HK:Hid (k=m):=qj (by omega)
     have e0:cat (ps.take k)=cat ps:=by rw [HK.out,List.take_of_length_le (by rw [HP.out.len];exact Nat.le_refl _)]
     have h1:=HO.out
     rw [e0] at h1
     obtain ⟨A',c',hv,_,_⟩:=zbK h1
     subst hv
     have HO3:=qj h1
     clear h1 e0
     go_wp2_with fail
     go_ret
     exact ⟨A',c',rfl,HO3.out,HB.out⟩
theorem zfw (G:Option Addr) (m c:Nat) (ps:List (Value × List Nat)) (w:World) (hp:Parts w w.heap.size G m ps) (hm:m≤9000000000000000000) (ht:(cat ps).length≤140737488355328) :
 Calls Tryz.prog 61 #[.slice G m c] w fun e w'=>∃A' c',e=.returned (.slice A' (cat ps).length c')∧w'.ownsRow w.heap.size 5 1 (.slice A' (cat ps).length c') (cat ps).length (vb (cat ps))∧Below w.heap.size w w':=by
 have HP:=qj hp
 clear hp
 go_enter Tryz.func61,Tryz.ntmps61
 go_wp2_with fail
 refine (zlL _ _ _ ps _ HP.out hm ht).mono ?_
 rintro e w1 ⟨A',c',rfl,hown,hbel⟩
 have HO:=qj hown
 have HB:=qj hbel
 clear hown hbel
 go_wp2_with fail
 go_ret
 exact ⟨A',c',rfl,HO.out,HB.out⟩
theorem zfY {w:World} {ps:List (Value × List Nat)} {m:Nat} {cs:Array Value} {t:TypeId} (hm:ps.length=m) (hcs:cs=(ps.map (·.1)).toArray) (he:∀p∈ps,∃A n c,p.1=.slice A n c∧By w A n c p.2) :
 Parts (w.alloc (.cells cs t)) (w.alloc (.cells cs t)).heap.size (some ⟨w.heap.size,0,none⟩) m ps:=by
 subst hcs
 refine ⟨hm,fun _=>⟨_,0,rfl,by simp,fun j p hp=>?_⟩,fun p hp=>?_⟩
 ·rw [Nat.zero_add,cell_of_row _ w.heap.size j _ t (0,0) (heap_alloc_new w _),List.getElem?_toArray,List.getElem?_map,hp]
  rfl
 ·obtain ⟨A,n,c,e,h⟩:=he p hp
  exact ⟨A,n,c,e,h.ext ((Ext.refl w).alloc _)⟩
theorem zgC (ps:List (Value × List Nat)) (m N:Nat) (w:World) (cs:Array Value) (hm:ps.length=m) (hcs:cs=(ps.map (·.1)).toArray) (he:∀p∈ps,∃A n c,p.1=.slice A n c∧By w A n c p.2)
 (hN:(cat ps).length=N) (hb:∀b∈cat ps,b<256) (hm9:m≤1000) (hN9:N≤140737488355328) :
 Calls Tryz.prog 61 #[.slice (some ⟨w.heap.size,0,none⟩) m m] (w.alloc (.cells cs 45)) fun e w'=>∃A' c',e=.returned (.slice A' N c')∧By w' A' N c' (cat ps)∧Ext w w':=by
 refine (zfw _ m m ps _ (zfY hm hcs he) (by omega) (by omega)).mono ?_
 rintro e w' ⟨A',c',rfl,hown,hx⟩
 rw [hN] at hown
 exact ⟨A',c',by rw [hN],Bs.of_own hown hb,((Ext.refl w).alloc _).trans hx⟩
theorem zdu {A1 A2:Option Addr} {n1 n2 c1 c2:Nat} {l1 l2:List Nat} (w:World) (h1:By w A1 n1 c1 l1) (h2:By w A2 n2 c2 l2) (hN:n1+n2≤140737488355328) :
 Calls Tryz.prog 61 #[.slice (some ⟨w.heap.size,0,none⟩) 2 2] (w.alloc (.cells #[.slice A1 n1 c1,.slice A2 n2 c2] 45)) fun e w'=>∃A' c',e=.returned (.slice A' (n1+n2) c')∧By w' A' (n1+n2) c' (l1++l2)∧Ext w w':=by
 have hcat:cat [(.slice A1 n1 c1,l1),(.slice A2 n2 c2,l2)]=l1++l2:=by simp [cat]
 rw [←hcat]
 refine zgC _ 2 _ w _ rfl rfl ?_ (by rw [hcat,List.length_append,h1.len,h2.len]) ?_ (by omega) hN
 ·intro p hp
  simp only [List.mem_cons,List.not_mem_nil,or_false] at hp
  rcases hp with rfl | rfl
  ·exact ⟨_,_,_,rfl,h1⟩
  ·exact ⟨_,_,_,rfl,h2⟩
 ·rw [hcat]
  intro b hb
  simp only [List.mem_append] at hb
  rcases hb with h | h
  ·exact h1.rd.lt b h
  ·exact h2.rd.lt b h
theorem zrU {A1 A2 A3:Option Addr} {n1 n2 n3 c1 c2 c3:Nat} {l1 l2 l3:List Nat} (w:World) (h1:By w A1 n1 c1 l1) (h2:By w A2 n2 c2 l2) (h3:By w A3 n3 c3 l3) (hN:n1+n2+n3≤140737488355328) :
 Calls Tryz.prog 61 #[.slice (some ⟨w.heap.size,0,none⟩) 3 3] (w.alloc (.cells #[.slice A1 n1 c1,.slice A2 n2 c2,.slice A3 n3 c3] 45)) fun e w'=>∃A' c',e=.returned (.slice A' (n1+n2+n3) c')∧By w' A' (n1+n2+n3) c' (l1++l2++l3)∧Ext w w':=by
 have hcat:cat [(.slice A1 n1 c1,l1),(.slice A2 n2 c2,l2),(.slice A3 n3 c3,l3)]=l1++l2++l3:=by simp [cat]
 rw [←hcat]
 refine zgC _ 3 _ w _ rfl rfl ?_ (by rw [hcat,List.length_append,List.length_append,h1.len,h2.len,h3.len]) ?_ (by omega) hN
 ·intro p hp
  simp only [List.mem_cons,List.not_mem_nil,or_false] at hp
  rcases hp with rfl | rfl | rfl
  ·exact ⟨_,_,_,rfl,h1⟩
  ·exact ⟨_,_,_,rfl,h2⟩
  ·exact ⟨_,_,_,rfl,h3⟩
 ·rw [hcat]
  intro b hb
  simp only [List.mem_append] at hb
  rcases hb with (h | h) | h
  ·exact h1.rd.lt b h
  ·exact h2.rd.lt b h
  ·exact h3.rd.lt b h
end Go.Proofs.YtdbpdhlecgoclaaGreatDoor
