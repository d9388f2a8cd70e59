/-
  The contracts of the program's checksum: half a byte by the table,bytes.
-/
import Derived.Test.YtdbpdhlecgoclaaGreatDoorP00
import Derived.Test.YtdbpdhlecgoclaaGreatDoorP01
import Derived.Test.YtdbpdhlecgoclaaGreatDoorP02
import Derived.Test.YtdbpdhlecgoclaaGreatDoorP06
import Derived.Test.YtdbpdhlecgoclaaGreatDoorP07
import Derived.Test.YtdbpdhlecgoclaaGreatDoorProg
import Derived.WalkKit
import Derived.WalkSpells
import Derived.BigQuiet
import Derived.Lib.Hide
import Derived.Laws.BitsAllLaws
import Derived.OwnWalk
import Derived.LaidMore
import Derived.Lib.LaidTab
import Derived.Stop.LaidErr
import Derived.Deep.Fields
import Derived.OpenShut
import Derived.ProofKit
import Derived.Test.YtdbpdhlecgoclaaGreatDoorRows
import Derived.Stop.Joined
import Derived.Laws.IdiomStrings
namespace Go.Proofs.YtdbpdhlecgoclaaGreatDoor
set_option maxRecDepth 100000
set_option maxHeartbeats 6400000
open Go Go.RowKit
def ziC (w:World):Prop:=∀i,i<16→w.cell? ⟨4,i,none⟩=some (.int .u32 ((stps 4 i:Nat):Int))
theorem zly (r:Nat) (w:World) (hL:ziC w) (hr:r<4294967296) :
 Calls Tryz.prog 187 #[.int .u32 r] w fun e w'=>e=.returned (.int .u32 ((stps 4 r:Nat):Int))∧w=w':=by
 have ha:bits .and .u32 (r:Int) 15=((r%16:Nat):Int):=by
  have:=u32_and_nat r 15 hr (by omega)
  rw [nat_mask4] at this
  exact this
 have hm:r%16<16:=Nat.mod_lt _ (by omega)
 have hc:=hL (r%16) hm
 have HS:Hid ((r/16) ^^^ stps 4 (r%16)=stps 4 r):=qj (zlI 4 r).symm
 have hlt:stps 4 (r%16)<4294967296:=zjE (by omega)
 have hx:bits .xor .u32 ((r:Int)/16) ((stps 4 (r%16):Nat):Int)=((r/16 ^^^ stps 4 (r%16):Nat):Int):=u32_xor_nat (r/16) _ (by omega) hlt
 clear hL hlt
 go_enter Tryz.func187,Tryz.ntmps187
 go_wp2_with fail
 go_ret
 exact ⟨by rw [HS.out];rfl,rfl⟩
theorem znd (s:Nat) (h:s<4294967296):bits .xor .u32 IntKind.u32.max (s:Int)=((inv s:Nat):Int):=by
 have e:IntKind.u32.max=((4294967295:Nat):Int):=by decide
 rw [e,u32_xor_nat 4294967295 s (by omega) h,zsh h,Nat.xor_comm]
theorem zsZ (A:Option Addr) (l:List Nat) (n c B s:Nat) (w:World) (hL:ziC w) (hl:l.length=n) (hr:Rd w B A l) (hm:n≤maxLen) (hs:s<4294967296) :
 Calls Tryz.prog 167 #[.int .u32 s,.slice A n c] w fun e w'=>e=.returned (.int .u32 ((crcE s l:Nat):Int))∧w=w':=by
 unfold maxLen at hm
 have H:=qj hL
 have HL:=qj hl
 clear hl hL
 go_enter Tryz.func167,Tryz.ntmps167
 go_wp2_with fail
 go_loop [5,12] (fun vr vi=>∃k t:Nat,k≤n∧vi=.int .i64 k∧vr=.int .u32 t∧t<4294967296∧Hid (t=feed (inv s) (l.take k))) (fun _ vi=>n-(intOf vi).toNat)
 case atStart=>exact ⟨0,inv s,Nat.zero_le _,rfl,by rw [znd s hs],zmD s,qj rfl⟩
 case round =>
  obtain ⟨k,t,hk,rfl,rfl,ht,HT⟩:=hrel
  by_cases hlt:k<n
  ·obtain ⟨g,o,x,hA,_,hx,hx2,hcx⟩:=hr.at_ (k:=k) (by rw [HL.out];exact hlt)
   subst hA
   have HX:Hid (inb t x=feed (inv s) (l.take (k+1))):=qj (by rw [ziL hx,←HT.out])
   have hin:=zqY ht hx2
   have hxor:=u32_xor_nat t x ht (by omega)
   have h1:t ^^^ x<4294967296:=zib ht (by omega)
   have h2:stps 4 (t ^^^ x)<4294967296:=zjE h1
   have HI:Hid (stps 4 (stps 4 (t ^^^ x))=inb t x):=qj (by rw [←zse];rfl)
   clear hx HT
   go_wp2_with fail
   refine (zly _ _ H.out h1).mono ?_
   rintro e w' ⟨rfl,rfl⟩
   go_wp2_with fail
   refine (zly _ _ H.out h2).mono ?_
   rintro e w' ⟨rfl,rfl⟩
   rw [HI.out]
   go_wp2_with fail
   go_round
   case rel=>exact ⟨k+1,inb t x,by omega,by go_num,rfl,hin,HX⟩
   case measure=>simp [intOf];omega
  ·have HF:Hid (inv t=crcE s l):=by
    have:=HT.out
    rw [List.take_of_length_le (by have:=HL.out;omega)] at this
    exact qj (by rw [this];rfl)
   go_wp2_with fail
   go_ret
   exact ⟨by rw [←HF.out,←znd t ht];rfl,rfl⟩
theorem ztt (A:Option Addr) (l:List Nat) (n c B:Nat) (w:World) (hL:ziC w) (hl:l.length=n) (hr:Rd w B A l) (hm:n≤maxLen) :
 Calls Tryz.prog 129 #[.slice A n c] w fun e w'=>e=.returned (.int .u32 ((crcS l:Nat):Int))∧w=w':=by
 have HM:=qj hm
 have H:=qj hL
 clear hm hL
 go_enter Tryz.func129,Tryz.ntmps129
 go_wp2_with fail
 refine (zsZ A l n c B 0 _ H.out hl hr HM.out (by omega)).mono ?_
 rintro e w' ⟨rfl,rfl⟩
 go_wp2_with fail
 go_ret
 exact ⟨rfl,rfl⟩
def pc (l:List Nat) (k j:Nat):Value:=.int .i64 ((if j<k then pfld l j else 0:Nat):Int)
def prow (l:List Nat) (k:Nat):Array Value:=#[pc l k 0,pc l k 1,pc l k 2,pc l k 3,pc l k 4]
theorem zpj (l:List Nat) {k:Nat} (h:k<5):(prow l k).setIfInBounds k (.int .i64 (pfld l k:Nat))=prow l (k+1):=by
 have hj':k=0∨k=1∨k=2∨k=3∨k=4:=by omega
 rcases hj' with rfl | rfl | rfl | rfl | rfl <;> simp [prow,pc]
structure PS (w:World) (l:List Nat) (k:Nat) (w':World):Prop where
 blank:w'.heap[w.heap.size]?=some (.cells #[.int .i64 0,.int .i64 0,.int .i64 0,.int .i64 0,.int .i64 0] 44 (0,0))
 row:w'.heap[w.heap.size+1]?=some (.cells (prow l k) 44 (0,0))
 ext:Ext w w'
theorem PS.start (w:World) (l:List Nat):PS w l 0 ((w.alloc (.cells Zk.c 44)).alloc (.cells Zk.c 44)):=by
 refine ⟨?_,heap_alloc2_new w _ _,((Ext.refl w).alloc _).alloc _⟩
 rw [heap_alloc_old _ _ (by simp)]
 exact heap_alloc_new w _
theorem PS.step {w w':World} {l:List Nat} {k:Nat} (h:PS w l k w') (hk:k<5):PS w l (k+1) (w'.setCell (aD (w.heap.size+1) k) (.int .i64 (pfld l k:Nat))):=by
 have hs:=setCell_eq_setRow w' (w.heap.size+1) k (prow l k) 44 (0,0) (.int .i64 (pfld l k:Nat)) h.row
 rw [hs,zpj l hk]
 exact ⟨(setRow_other w' _ _ _ (by omega)).trans h.blank,setRow_heap w' _ _ _ _ _ h.row,below_setRow h.ext (by omega) _⟩
theorem PS.cell {w w':World} {l:List Nat} {k:Nat} (h:PS w l k w') (j:Nat):w'.cell? (aD (w.heap.size+1) j)=(prow l k)[j]?:=cell_of_row w' _ j _ _ _ h.row
theorem PS.free {w w':World} {l:List Nat} {k:Nat} (h:PS w l k w') (j:Nat):w'.frozen? (aD (w.heap.size+1) j)=false:=frozen_of_row w' _ j _ _ h.row
theorem zop (g k:Nat) (hk:k<5) (w:World):(Instr.index 265 (.agg #[aD g 0,aD g 1,aD g 2,aD g 3,aD g 4]) (.int .i64 k)).run Tryz.prog w=.ok (aD g k) w:=by
 have hj':k=0∨k=1∨k=2∨k=3∨k=4:=by omega
 rcases hj' with rfl | rfl | rfl | rfl | rfl <;> (show _=_;kernel_rfl)
theorem zjS {l:List Nat} {k:Nat} (hk:k<5) (h:pos k+wth k≤l.length):getS l (pos k) (wth k)=(pfld l k,pos (k+1),0):=by
 rw [zbJ (zni k) (by omega) (by omega) (by omega),zdW hk]
 rfl
theorem zuq {l:List Nat} {k:Nat} (h:l.length<pos k+wth k) (hp:pos k≤l.length):getS l (pos k) (wth k)=(0,0,10):=zba (zni k) (by omega) (by omega) (by omega)
theorem zac {w:World} {g:Nat} {x0 x1 x2 x3 x4:Value} (h:w.heap[g]?=some (.cells #[x0,x1,x2,x3,x4] 44 (0,0))) :
 ((CW.mk w g [x0,x1,x2,x3,x4]:Prop)) ∧
  (w.frozen? (aD g 0)=false∧w.frozen? (aD g 1)=false∧w.frozen? (aD g 2)=false∧w.frozen? (aD g 3)=false∧w.frozen? (aD g 4)=false) :=
 ⟨⟨cell_of_row w g 0 _ _ _ h,cell_of_row w g 1 _ _ _ h,cell_of_row w g 2 _ _ _ h,cell_of_row w g 3 _ _ _ h,cell_of_row w g 4 _ _ _ h⟩,
   ⟨frozen_of_row w g 0 _ _ h,frozen_of_row w g 1 _ _ h,frozen_of_row w g 2 _ _ h,frozen_of_row w g 3 _ _ h,frozen_of_row w g 4 _ _ h⟩⟩
theorem zal {w w':World} (h:Ext w w') {g:Nat} (hg:w.heap.size≤g) (x0 x1 x2 x3 x4:Value) :
 Ext w ((SW.mk w' g [x0,x1,x2,x3,x4]:World)) :=
 ((((h.setCell (p:=⟨g,0,none⟩) hg _).setCell (p:=⟨g,1,none⟩) hg _).setCell (p:=⟨g,2,none⟩) hg _).setCell (p:=⟨g,3,none⟩) hg _).setCell (p:=⟨g,4,none⟩) hg _
theorem zfP (A:Option Addr) (n cp:Nat) (l:List Nat) (w:World) (hL:LaidA w) (hb:By w A n cp l) (hn:n≤9000000000000000000) :
 Calls Tryz.prog 200 #[.slice A n cp] w fun r w'=>r=.returned (.tuple #[.agg #[.int .i64 (pf l 0),.int .i64 (pf l 1),.int .i64 (pf l 2),.int .i64 (pf l 3),.int .i64 (pf l 4)],.int .i64 (pe l)])∧Ext w w':=by
 have HS:=qj (PS.start w l)
 have HL:=qj hL
 have HB:=qj hb
 clear hL hb
 go_enter Tryz.func200,Tryz.ntmps200
 go_wp2_with fail
 go_loopw [5,17] (fun p i wr=>∃k:Nat,k≤5∧i=.int .i64 k∧p=.int .i64 (pos k)∧pos k≤n∧Hid (PS w l k wr)) (fun _ i _=>5-(intOf i).toNat)
 case atStart=>exact ⟨0,Nat.zero_le _,rfl,rfl,Nat.zero_le _,HS⟩
 case round =>
  obtain ⟨k,hk,rfl,rfl,hp,HP⟩:=hrel
  by_cases hlt:k<5
  ·have hW:=(HL.out.ext HP.out.ext).w k hlt
   have hI:=zop (w.heap.size+1) k hlt
   have hwl:=zlQ k
   by_cases hsh:n<pos k+wth k
   ·have HG:=qj (zuq (l:=l) (k:=k) (by rw [HB.out.len];exact hsh) (by rw [HB.out.len];exact hp))
    have hp15:=zqz (k+1)
    rw [zdW hlt] at hp15
    have HV:=qj (zmz (l:=l) (by rw [HB.out.len];omega))
    clear hp15
    go_wp2_with fail
    refine (zbx A l n cp _ _ _ _ (HL.out.ext HP.out.ext).o HB.out.len (HB.out.ext HP.out.ext).rd hn).mono ?_
    rw [HG.out]
    rintro r w2 ⟨rfl,rfl⟩
    obtain ⟨⟨c0,c1,c2,c3,c4⟩,f0,f1,f2,f3,f4⟩:=zac HP.out.blank
    go_wp2_with fail
    refine bodyPost_ret (v:=.tuple #[.agg Zk.c,.int .i64 30]) ?_ rfl ⟨?_,?_⟩
    ·simp [results,Tryz.results200,go_sem,c0,c1,c2,c3,c4]
    ·rw [zaG HV.out,zaG HV.out,zaG HV.out,zaG HV.out,zaG HV.out,zgt HV.out];rfl
    ·exact zal HP.out.ext (Nat.le_refl _) _ _ _ _ _
   ·have HG:=qj (zjS (l:=l) hlt (by rw [HB.out.len];omega))
    have c:=HP.out.cell k
    obtain ⟨v,hv⟩:∃v,(prow l k)[k]?=some v:=⟨_,Array.getElem?_eq_getElem (by simpa [prow] using hlt)⟩
    rw [hv] at c
    have f:=HP.out.free k
    have HPS:=qj (HP.out.step hlt)
    have hle:pos (k+1)≤n:=by rw [zdW hlt];omega
    clear hv
    go_wp2_with fail
    refine (zbx A l n cp _ _ _ _ (HL.out.ext HP.out.ext).o HB.out.len (HB.out.ext HP.out.ext).rd hn).mono ?_
    rw [HG.out]
    rintro r w2 ⟨rfl,rfl⟩
    go_wp2_with fail
    go_roundw
    case rel=>exact ⟨k+1,by omega,by go_num,rfl,hle,HPS⟩
    case measure=>simp [intOf];omega
  ·have hk5:k=5:=by omega
   subst hk5
   have hle:15≤n:=hp
   obtain ⟨⟨c0,c1,c2,c3,c4⟩,f0,f1,f2,f3,f4⟩:=zac HP.out.blank
   have hrow:wr.heap[w.heap.size+1]?=some (.cells #[.int .i64 (pfld l 0),.int .i64 (pfld l 1),.int .i64 (pfld l 2),.int .i64 (pfld l 3),.int .i64 (pfld l 4)] 44 (0,0)):=HP.out.row
   have HR:=qj hrow
   rw [show pos 5=15 from rfl]
   obtain ⟨⟨d0,d1,d2,d3,d4⟩,_⟩:=zac hrow
   clear hrow
   by_cases h15:n=15
   ·subst h15
    have hlt0:w.heap.size<wr.heap.size:=(Array.getElem?_eq_some_iff.1 HP.out.blank).1
    have hlt1:w.heap.size+1<wr.heap.size:=(Array.getElem?_eq_some_iff.1 HR.out).1
    by_cases hm:mayB (pfld l 0) (pfld l 1) (pfld l 2) (pfld l 3) (pfld l 4)=true
    ·have HV:=qj (znk HB.out.len hm)
     have HM:=qj hm
     clear hm
     go_wp2_with fail
     refine (zcw _ _ _ _ _ _ (HL.out.ext HP.out.ext).t).mono ?_
     rw [HM.out]
     rintro r w2 ⟨rfl,hx⟩
     have hb2:=(hx.block _ hlt0).trans HP.out.blank
     have hr2:=(hx.block _ hlt1).trans HR.out
     have HE:=qj (HP.out.ext.trans hx)
     clear c0 c1 c2 c3 c4 f0 f1 f2 f3 f4 d0 d1 d2 d3 d4 hx hlt0 hlt1
     obtain ⟨⟨c0,c1,c2,c3,c4⟩,f0,f1,f2,f3,f4⟩:=zac hb2
     obtain ⟨⟨d0,d1,d2,d3,d4⟩,_⟩:=zac hr2
     clear hb2 hr2
     go_wp2_with fail
     refine bodyPost_ret (v:=.tuple #[.agg #[.int .i64 (pfld l 0),.int .i64 (pfld l 1),.int .i64 (pfld l 2),.int .i64 (pfld l 3),.int .i64 (pfld l 4)],.int .i64 0]) ?_ rfl ⟨?_,?_⟩
     ·simp [results,Tryz.results200,go_sem,c0,c1,c2,c3,c4]
     ·rw [zaX HV.out,zaX HV.out,zaX HV.out,zaX HV.out,zaX HV.out,zfD HV.out]
     ·exact zal HE.out (Nat.le_refl _) _ _ _ _ _
    ·have hm':mayB (pfld l 0) (pfld l 1) (pfld l 2) (pfld l 3) (pfld l 4)=false:=by simpa using hm
     have HV:=qj (zrq hm')
     have HM:=qj hm'
     clear hm hm'
     go_wp2_with fail
     refine (zcw _ _ _ _ _ _ (HL.out.ext HP.out.ext).t).mono ?_
     rw [HM.out]
     rintro r w2 ⟨rfl,hx⟩
     have hb2:=(hx.block _ hlt0).trans HP.out.blank
     have HE:=qj (HP.out.ext.trans hx)
     clear c0 c1 c2 c3 c4 f0 f1 f2 f3 f4 d0 d1 d2 d3 d4 hx hlt0 hlt1
     obtain ⟨⟨c0,c1,c2,c3,c4⟩,f0,f1,f2,f3,f4⟩:=zac hb2
     clear hb2
     go_wp2_with fail
     refine bodyPost_ret (v:=.tuple #[.agg Zk.c,.int .i64 30]) ?_ rfl ⟨?_,?_⟩
     ·simp [results,Tryz.results200,go_sem,c0,c1,c2,c3,c4]
     ·rw [zaG HV.out,zaG HV.out,zaG HV.out,zaG HV.out,zaG HV.out,zgt HV.out];rfl
     ·exact zal HE.out (Nat.le_refl _) _ _ _ _ _
   ·have HV:=qj (zmz (l:=l) (by rw [HB.out.len];exact h15))
    have hne:((15:Int) != (n:Int))=true:=by rw [bne_iff_ne];omega
    go_wp2_with fail
    refine bodyPost_ret (v:=.tuple #[.agg Zk.c,.int .i64 30]) ?_ rfl ⟨?_,?_⟩
    ·simp [results,Tryz.results200,go_sem,c0,c1,c2,c3,c4]
    ·rw [zaG HV.out,zaG HV.out,zaG HV.out,zaG HV.out,zaG HV.out,zgt HV.out];rfl
    ·exact zal HP.out.ext (Nat.le_refl _) _ _ _ _ _
structure LaidF (w:World):Prop where
 a:LaidA w
 h:ziC w
theorem LaidF.ext {a b:World} (h:LaidF a) (k:Ext a b):LaidF b:=⟨h.a.ext k,fun i hi=>Ext.cell k (h.h i hi)⟩
def sealE (a b c d e:Int) (n:Nat) (s:Int):Int:=if roomN s=0∨mayB a b c d e=false then 2 else if roomN s<n then 3 else 0
def sealL (a b c d e:Int) (body:List Nat) (s:Int):List Nat:=if sealE a b c d e body.length s=0 then zbN body (pl a b c d e) s.toNat else []
theorem zeG {a b c d e s:Int} {n:Nat} (h:roomN s=0∨mayB a b c d e=false):sealE a b c d e n s=2:=by unfold sealE;rw [if_pos h]
theorem zdF {a b c d e s:Int} {n:Nat} (h:roomN s≠0) (hm:mayB a b c d e=true) (hn:roomN s<n):sealE a b c d e n s=3:=by unfold sealE;rw [if_neg (by rw [hm];simpa using h),if_pos hn]
theorem zbD {a b c d e s:Int} {n:Nat} (h:roomN s≠0) (hm:mayB a b c d e=true) (hn:n≤roomN s):sealE a b c d e n s=0:=by unfold sealE;rw [if_neg (by rw [hm];simpa using h),if_neg (by omega)]
theorem zfl {a b c d e s:Int} {body:List Nat} (h:sealE a b c d e body.length s≠0):sealL a b c d e body s=[]:=by unfold sealL;rw [if_neg h]
theorem zex {a b c d e s:Int} {body:List Nat} (h:sealE a b c d e body.length s=0):sealL a b c d e body s=zbN body (pl a b c d e) s.toNat:=by unfold sealL;rw [if_pos h]
theorem zgw (body own:List Nat) (S m:Nat) (hm:m=64 * S-21-body.length):digs 2 body.length++own++body++List.replicate m 0=frameH body own S:=by subst hm;rfl
theorem zub (A:Option Addr) (l:List Nat) (n c:Nat) (w:World) (hL:ziC w) (hb:By w A n c l) :
 (cL 129 #[.slice A n c] w (.int .u32 ((crcS l:Nat):Int)):Prop) :=
 (ztt A l n c _ w hL hb.len hb.rd (by have:=hb.cap;have:=hb.most;unfold maxLen;omega)).mono fun _ _ ⟨h,hw⟩=>⟨h,by subst hw;exact Ext.refl _⟩
theorem zqm {A1 A2 A3 A4:Option Addr} {n1 n2 n3 n4 c1 c2 c3 c4:Nat} {l1 l2 l3 l4:List Nat} (w:World) (h1:By w A1 n1 c1 l1) (h2:By w A2 n2 c2 l2) (h3:By w A3 n3 c3 l3) (h4:By w A4 n4 c4 l4) (N:Nat) (hN:n1+n2+n3+n4=N) (hN2:N≤140737488355328) :
 Calls Tryz.prog 61 #[.slice (some ⟨w.heap.size,0,none⟩) 4 4] (w.alloc (.cells #[.slice A1 n1 c1,.slice A2 n2 c2,.slice A3 n3 c3,.slice A4 n4 c4] 45)) fun e w'=>∃A' c',e=.returned (.slice A' N c')∧By w' A' N c' (l1++l2++l3++l4)∧Ext w w':=by
 have hcat:cat [(.slice A1 n1 c1,l1),(.slice A2 n2 c2,l2),(.slice A3 n3 c3,l3),(.slice A4 n4 c4,l4)]=l1++l2++l3++l4:=by simp [cat]
 rw [←hcat]
 refine zgC _ 4 N w _ rfl rfl ?_ (by rw [hcat,List.length_append,List.length_append,List.length_append,h1.len,h2.len,h3.len,h4.len];exact hN) ?_ (by omega) hN2
 ·intro p hp
  simp only [List.mem_cons,List.not_mem_nil,or_false] at hp
  rcases hp with rfl | rfl | rfl | rfl
  ·exact ⟨_,_,_,rfl,h1⟩
  ·exact ⟨_,_,_,rfl,h2⟩
  ·exact ⟨_,_,_,rfl,h3⟩
  ·exact ⟨_,_,_,rfl,h4⟩
 ·rw [hcat]
  intro b hb
  simp only [List.mem_append] at hb
  rcases hb with ((h | h) | h) | h
  ·exact h1.rd.lt b h
  ·exact h2.rd.lt b h
  ·exact h3.rd.lt b h
  ·exact h4.rd.lt b h
theorem zod {A1 A2:Option Addr} {n1 n2 c1 c2:Nat} {l1 l2:List Nat} (w:World) (h1:By w A1 n1 c1 l1) (h2:By w A2 n2 c2 l2) (hN:n1+n2≤140737488355328) :
 Calls Tryz.prog 61 #[.slice (some ⟨w.heap.size,0,none⟩) 2 2] (w.alloc (.cells #[.slice A1 n1 c1,.slice A2 n2 c2] 45)) fun e w'=>∃A' c',e=.returned (.slice A' (n1+n2) c')∧w'.ownsRow w.heap.size 5 1 (.slice A' (n1+n2) c') (n1+n2) (vb (l1++l2))∧By w' A' (n1+n2) c' (l1++l2)∧Ext w w':=by
 have hcat:cat [(.slice A1 n1 c1,l1),(.slice A2 n2 c2,l2)]=l1++l2:=by simp [cat]
 have hlen:(cat [(Value.slice A1 n1 c1,l1),(Value.slice A2 n2 c2,l2)]).length=n1+n2:=by rw [hcat,List.length_append,h1.len,h2.len]
 refine (zfw _ 2 2 [(.slice A1 n1 c1,l1),(.slice A2 n2 c2,l2)] _ (zfY rfl rfl ?_) (by omega) (by rw [hlen];omega)).mono ?_
 ·intro p hp
  simp only [List.mem_cons,List.not_mem_nil,or_false] at hp
  rcases hp with rfl | rfl
  ·exact ⟨_,_,_,rfl,h1⟩
  ·exact ⟨_,_,_,rfl,h2⟩
 ·rintro e w' ⟨A',c',rfl,hown,hx⟩
  rw [hlen,hcat] at hown
  rw [hlen]
  refine ⟨A',c',rfl,?_,Bs.of_own hown (by intro b hb;rcases List.mem_append.1 hb with h | h;exact h1.rd.lt b h;exact h2.rd.lt b h),((Ext.refl w).alloc _).trans hx⟩
  refine ⟨hown.1,?_⟩
  rcases hown.2 with h0 | ⟨g,cap,cur,hv,hbg,hrest⟩
  ·exact .inl h0
  ·exact .inr ⟨g,cap,cur,hv,Nat.le_trans (by simp) hbg,hrest⟩
theorem zpI (a b c d e s:Int) (A:Option Addr) (n cp:Nat) (w:World) (hL:LaidF w) (h:roomN s=0∨mayB a b c d e=false) :
 Calls Tryz.prog 72 #[.agg #[a,b,c,d,e],.slice A n cp,.int .i64 s] w fun r w'=>r=.returned (.tuple Zk.o)∧Ext w w':=by
 have hE:=(Ext.refl w).alloc (.cells #[a,b,c,d,e] 44)
 have hT:=heap_alloc_new w (.cells #[a,b,c,d,e] 44)
 have HL:=qj hL
 have HE:=qj hE
 obtain ⟨⟨i0,i1,i2,i3,i4⟩,_⟩:=zac hT
 clear hE hL hT
 by_cases h0:roomN s=0
 ·clear h
  go_enter Tryz.func72,Tryz.ntmps72
  go_wp2_with fail
  refine (zcN _ _).mono ?_
  rw [h0]
  rintro r w1 ⟨rfl,rfl⟩
  go_wp2_with fail
  go_ret2
  exact ⟨rfl,HE.out⟩
 ·have HM:Hid (mayB a b c d e=false):=qj (by rcases h with h | h;exact absurd h h0;exact h)
  have g0:(((roomN s:Nat):Int) == 0)=false:=by simpa using h0
  clear h h0
  go_enter Tryz.func72,Tryz.ntmps72
  go_wp2_with fail
  refine (zcN _ _).mono ?_
  rintro r w1 ⟨rfl,rfl⟩
  generalize roomN s=R at *
  go_wp2_with fail
  refine (zcw _ _ _ _ _ _ (HL.out.ext HE.out).a.t).mono ?_
  rw [HM.out]
  rintro r w1 ⟨rfl,hx⟩
  have HE:=qj (HE.out.trans hx)
  clear hx
  go_wp2_with fail
  go_ret2
  exact ⟨rfl,HE.out⟩
theorem zoY (a b c d e s:Int) (A:Option Addr) (n cp:Nat) (w:World) (hL:LaidF w) (h0:roomN s≠0) (hm:mayB a b c d e=true) (hn:roomN s<n) :
 Calls Tryz.prog 72 #[.agg #[a,b,c,d,e],.slice A n cp,.int .i64 s] w fun r w'=>r=.returned (.tuple #[.slice none 0 0,.int .i64 3])∧Ext w w':=by
 have hE:=(Ext.refl w).alloc (.cells #[a,b,c,d,e] 44)
 have hT:=heap_alloc_new w (.cells #[a,b,c,d,e] 44)
 have HL:=qj hL
 have HE:=qj hE
 have HM:=qj hm
 obtain ⟨⟨i0,i1,i2,i3,i4⟩,_⟩:=zac hT
 have g0:(((roomN s:Nat):Int) == 0)=false:=by simpa using h0
 clear hE hL hT hm h0
 go_enter Tryz.func72,Tryz.ntmps72
 go_wp2_with fail
 refine (zcN _ _).mono ?_
 rintro r w1 ⟨rfl,rfl⟩
 generalize roomN s=R at *
 go_wp2_with fail
 refine (zcw _ _ _ _ _ _ (HL.out.ext HE.out).a.t).mono ?_
 rw [HM.out]
 rintro r w1 ⟨rfl,hx⟩
 have HE:=qj (HE.out.trans hx)
 clear hx i0 i1 i2 i3 i4
 go_wp2_with fail
 go_ret2
 exact ⟨rfl,HE.out⟩
theorem zrt (a b c d e:Int) (S:Nat) (A:Option Addr) (n cp:Nat) (body:List Nat) (w:World) (hL:LaidF w) (hb:By w A n cp body) (h0:roomN (S:Int)≠0) (hm:mayB a b c d e=true) (hn:n≤roomN (S:Int)) :
 Calls Tryz.prog 72 #[.agg #[a,b,c,d,e],.slice A n cp,.int .i64 S] w fun r w'=>∃A' c',r=.returned (.tuple #[.slice A' (64 * S) c',.int .i64 0])∧By w' A' (64 * S) c' (zbN body (pl a b c d e) S)∧w'.ownsRow w.heap.size 5 1 (.slice A' (64 * S) c') (64 * S) (vb (zbN body (pl a b c d e) S))∧Ext w w':=by
 obtain ⟨i0,hi,hz0,hz1,hz2⟩:=info_parts zay
 have hE:=(Ext.refl w).alloc (.cells #[a,b,c,d,e] 44)
 have hT:=heap_alloc_new w (.cells #[a,b,c,d,e] 44)
 have HL:=qj hL
 have HE:=qj hE
 have HM:=qj hm
 have HB:=qj hb
 have HT:=qj hT
 obtain ⟨⟨j0,j1,j2,j3,j4⟩,_⟩:=zac hT
 have g0:(((roomN (S:Int):Nat):Int) == 0)=false:=by simpa using h0
 have hfit:=zdq hn (by omega)
 have h15:(pl a b c d e).length=15:=by rw [zdd hm,zaS]
 have hN:body.length=n:=Bs.len hb
 have HN:Hid (body.length=n):=qj hN
 obtain ⟨m,hm4⟩:∃m:Nat,m=64 * S-21-n:=⟨_,rfl⟩
 have HH:Hid (digs 2 n++pl a b c d e++body++List.replicate m 0=frameH body (pl a b c d e) S):=qj (by rw [←hN];exact zgw body _ S m (by rw [hN];exact hm4))
 have HHl:Hid ((frameH body (pl a b c d e) S).length=64 * S-4):=qj (zid h15 (by omega) (by omega))
 have hm5:(S:Int) * 64-17-(n:Int)-4=(m:Int):=by omega
 have hroomle:=zkj (S:Int)
 have hmle:m≤128:=by omega
 have HM4:Hid (2+15+n+m=64 * S-4∧64 * S-4+4=64 * S):=qj (by omega)
 clear hE hL hT hm h0 hb hN hm4
 go_enter Tryz.func72,Tryz.ntmps72
 go_wp2_with fail
 refine (zcN _ _).mono ?_
 rintro r w1 ⟨rfl,rfl⟩
 generalize roomN (S:Int)=R at *
 go_wp2_with fail
 refine (zcw _ _ _ _ _ _ (HL.out.ext HE.out).a.t).mono ?_
 rw [HM.out]
 rintro r w1 ⟨rfl,hx⟩
 have HE:=qj (HE.out.trans hx)
 have ht:=(hx.block _ (Array.getElem?_eq_some_iff.1 HT.out).1).trans HT.out
 have HT:=qj ht
 clear hx j0 j1 j2 j3 j4 ht
 go_wp2_with fail
 refine (zfZ 2 n _ (HL.out.ext HE.out).a.o (zbs.2 ⟨rfl,by omega,by show n<65536;omega⟩)).mono ?_
 rintro r w2 ⟨A2,c2,rfl,hb2,hx⟩
 have HB2:=qj hb2
 have HE:=qj (HE.out.trans hx)
 have ht:=(hx.block _ (Array.getElem?_eq_some_iff.1 HT.out).1).trans HT.out
 clear hx hb2
 obtain ⟨⟨j0,j1,j2,j3,j4⟩,_⟩:=zac ht
 clear ht
 go_wp2_with fail
 refine (zoR _ _ _ _ _ _ (HL.out.ext HE.out).a).mono ?_
 rw [h15]
 rintro r w3 ⟨A3,c3,rfl,hb3,hx⟩
 have HB3:=qj hb3
 have HB2:=qj (HB2.out.ext hx)
 have HE:=qj (HE.out.trans hx)
 clear hx hb3 j0 j1 j2 j3 j4
 go_wp2_with (at_make;refine wpList_make_full _ rfl _ _ 45 rfl w3.heap.size 5 i0 (.int .u8 0) 1 Tryz.underlying45 hi hz0 hz1 .i64 .i64 _ _ m rfl rfl rfl rfl ?b1 ?b2 ?b3 ?_)
 case b1=>rw [hz2];omega
 case b2=>unfold maxLen;omega
 case b3=>exact Nat.le_refl _
 intro w4 hown hg
 have HB4:Hid (By w4 (some ⟨w3.heap.size,0,none⟩) m m (List.replicate m 0)):=by
  have e:(madeCells #[Value.int .u8 0] m).toList=vb (List.replicate m 0):=by
   rw [toList_madeCells_one]
   simp [vb]
  rw [e] at hown
  exact qj (Bs.of_own hown (by intro b hb;rw [(List.mem_replicate.1 hb).2];omega))
 have hx:Ext w3 w4:=(Below.refl w3.heap.size w3).grown hg (Nat.le_refl _) (by simp)
 have HB3:=qj (HB3.out.ext hx)
 have HB2:=qj (HB2.out.ext hx)
 have HE:=qj (HE.out.trans hx)
 clear hx hown hg hm5
 go_wp2_with fail
 refine (zqm _ HB2.out HB3.out (HB.out.ext HE.out) HB4.out (64 * S-4) HM4.out.1 (by omega)).mono ?_
 rw [HH.out]
 rintro r w5 ⟨A5,c5,rfl,hb5,hx⟩
 have HB5:=qj hb5
 have HE:=qj (HE.out.trans hx)
 clear hx hb5 HB2 HB3 HB4
 go_wp2_with fail
 refine (zub _ _ _ _ _ (HL.out.ext HE.out).h HB5.out).mono ?_
 rintro r w6 ⟨rfl,hx⟩
 have HB5:=qj (HB5.out.ext hx)
 have HE:=qj (HE.out.trans hx)
 have hs:crcS (frameH body (pl a b c d e) S)<4294967296:=znG _ _
 have HZ:Hid (frameH body (pl a b c d e) S++digs 4 (crcS (frameH body (pl a b c d e) S))=zbN body (pl a b c d e) S):=qj rfl
 clear hx
 generalize crcS (frameH body (pl a b c d e) S)=z at *
 generalize frameH body (pl a b c d e) S=Hd at *
 go_wp2_with fail
 refine (zfZ 4 z _ (HL.out.ext HE.out).a.o (zbs.2 ⟨rfl,by omega,by show z<4294967296;omega⟩)).mono ?_
 rintro r w7 ⟨A7,c7,rfl,hb7,hx⟩
 have HB7:=qj hb7
 have HB5:=qj (HB5.out.ext hx)
 have HE:=qj (HE.out.trans hx)
 clear hx hb7
 go_wp2_with fail
 refine (zod _ HB5.out HB7.out (by omega)).mono ?_
 rw [HZ.out,HM4.out.2]
 rintro r w8 ⟨A8,c8,rfl,ho8,hb8,hx⟩
 have HB8:=qj hb8
 have HO8:=qj ho8
 have HS7:=qj (Ext.size HE.out)
 have HE:=qj (HE.out.trans hx)
 clear hx hb8 ho8
 go_wp2_with fail
 go_ret2
 refine ⟨A8,c8,rfl,HB8.out,⟨HO8.out.1,?_⟩,HE.out⟩
 rcases HO8.out.2 with h0 | ⟨g,cap,cur,hv,hbg,hrest⟩
 ·exact .inl h0
 ·exact .inr ⟨g,cap,cur,hv,Nat.le_trans HS7.out hbg,hrest⟩
theorem zlb (a b c d e s:Int) (A:Option Addr) (n cp:Nat) (body:List Nat) (w:World) (hL:LaidF w) (hb:By w A n cp body) :
 Calls Tryz.prog 72 #[.agg #[a,b,c,d,e],.slice A n cp,s] w fun r w'=>∃A' c',r=.returned (.tuple #[.slice A' (sealL a b c d e body s).length c',.int .i64 (sealE a b c d e n s)])∧By w' A' (sealL a b c d e body s).length c' (sealL a b c d e body s)∧(sealE a b c d e n s=0→w'.ownsRow w.heap.size 5 1 (.slice A' (sealL a b c d e body s).length c') (sealL a b c d e body s).length (vb (sealL a b c d e body s)))∧Ext w w':=by
 have hlen:body.length=n:=Bs.len hb
 by_cases h:roomN s=0∨mayB a b c d e=false
 ·have hE:=zeG (n:=n) h
  rw [zfl (by rw [hlen,hE];omega),hE]
  exact (zpI a b c d e s A n cp w hL h).mono fun _ w' ⟨h1,h2⟩=>⟨none,0,h1,By.nil_ w',(fun h=>by cases h),h2⟩
 ·have h0:roomN s≠0:=fun hh=>h (.inl hh)
  have hm:mayB a b c d e=true:=by
   by_cases hm:mayB a b c d e=true
   ·exact hm
   ·exact absurd (.inr (by simpa using hm)) h
  by_cases hn:roomN s<n
  ·have hE:=zdF h0 hm hn
   rw [zfl (by rw [hlen,hE];omega),hE]
   exact (zoY a b c d e s A n cp w hL h0 hm hn).mono fun _ w' ⟨h1,h2⟩=>⟨none,0,h1,By.nil_ w',(fun h=>by cases h),h2⟩
  ·obtain ⟨S,rfl⟩:=Int.eq_ofNat_of_zero_le (show 0≤s by have:=zev (s:=s) (by omega);omega)
   have hE:=zbD h0 hm (show n≤roomN (S:Int) by omega)
   have hfit:=zdq (show n≤roomN (S:Int) by omega) (by omega)
   rw [zex (by rw [hlen];exact hE),hE,Int.toNat_natCast,zeS (by rw [zdd hm,zaS]) (by omega) (by omega)]
   exact (zrt a b c d e S A n cp body w hL hb h0 hm (by omega)).mono fun _ w' ⟨A',c',h1,h2,h3,h4⟩=>⟨A',c',h1,h2,fun _=>h3,h4⟩
theorem zqZ (a b c d e s:Int) (A:Option Addr) (n cp:Nat) (body:List Nat) (w:World) (hL:LaidF w) (hb:By w A n cp body) :
 Calls Tryz.prog 72 #[.agg #[a,b,c,d,e],.slice A n cp,s] w fun r w'=>∃A' c',r=.returned (.tuple #[.slice A' (sealL a b c d e body s).length c',.int .i64 (sealE a b c d e n s)])∧By w' A' (sealL a b c d e body s).length c' (sealL a b c d e body s)∧Ext w w' :=
 (zlb a b c d e s A n cp body w hL hb).mono fun _ _ ⟨A',c',h1,h2,_,h4⟩=>⟨A',c',h1,h2,h4⟩
section
open Go Go.RowKit Go.ChangeShapes Go.WideShapes Go.Deep
def tab2 {H:Type} (k:IntKind) (rows:List (List Int)):DataW H:=.agg (rows.map fun r=>.agg (r.map fun z=>.lit (.int k z)))
theorem zik {H:Type} {enc:TypeId × Value→H} {P:Program} {w:World} {base:Nat} {sp:Nat→Bool} {held:Bool} {fuel:Nat} {t e:TypeId} {n:Nat} {k:IntKind} {fs:Array Field} {cs:List Value} {rows:List (List Int)} {p:List MemPlace}
 (ht:P.underlying t=some (.array n e)) (he:P.underlying e=some (.struct fs)) (hone:oneCellFields P fs=true) (hC:P.cellsOf e=fs.size) (hk:∀(j:Nat) (f:Field),fs[j]?=some f→P.underlying f.type=some (.int k))
 (h:DataW.trod enc P w base sp held fuel t cs=some (tab2 k rows,p)) (i:Nat) (r:List Int) (hr:rows[i]?=some r) (j:Nat) (z:Int) (hz:r[j]?=some z):cs[i * fs.size+j]?=some (.int k z):=by
 obtain ⟨xs,m,_,hx,_,hxl,hxi⟩:=DataW.trod_array ht h
 have hx1:xs.map (·.1)=rows.map fun r=>(.agg (r.map fun z=>.lit (.int k z)):DataW H):=by
  have:=congrArg Prod.fst hx
  simp only [tab2,DataW.agg.injEq] at this
  exact this.symm
 have hin:i<n:=by
  have h1:i<rows.length:=(List.getElem?_eq_some_iff.1 hr).1
  have h2:=congrArg List.length hx1
  simp at h2
  omega
 have hrow:=hxi i hin
 obtain ⟨x,hxe⟩:∃x,xs[i]?=some x:=⟨_,List.getElem?_eq_getElem (by omega)⟩
 have hx2:x.1=(.agg (r.map fun z=>.lit (.int k z)):DataW H):=by
  have:=congrArg (·[i]?) hx1
  simpa [hxe,hr] using this
 rw [hxe,hC] at hrow
 obtain ⟨ys,m2,_,hy,_,hyl,hyf⟩:=DataW.trod_struct he hrow
 have hy1:ys.map (·.1)=r.map fun z=>(.lit (.int k z):DataW H):=by
  have:=congrArg Prod.fst hy
  rw [hx2] at this
  simp only [DataW.agg.injEq] at this
  exact this.symm
 have hjn:j<fs.size:=by
  have h1:j<r.length:=(List.getElem?_eq_some_iff.1 hz).1
  have h2:=congrArg List.length hy1
  simp at h2
  omega
 have hf:fs[j]?=some fs[j]:=Array.getElem?_eq_getElem hjn
 obtain ⟨ho,hc1⟩:=hone_of hone j fs[j] hf
 have hfj:=hyf j fs[j] hf
 rw [ho,hc1] at hfj
 obtain ⟨y,hye⟩:∃y,ys[j]?=some y:=⟨_,List.getElem?_eq_getElem (by omega)⟩
 rw [hye] at hfj
 obtain ⟨z',hcs,hyz,_⟩:=DataW.trod_int (hk j fs[j] hf) hfj
 have hz':z'=z:=by
  have:=congrArg (·[j]?) hy1
  simpa [hye,hyz,hz] using this
 subst hz'
 have:=congrArg (·[0]?) hcs
 simp [List.getElem?_drop,hjn] at this
 exact this
theorem zju {P:Program} {W:World} {name:String} {k:IntKind} {rows:List (List Int)} {rest:List (String × DataW Unit)} {g:Nat} {t e:TypeId} {n:Nat} {fs:Array Field}
 (hg:P.globalNamed name=some g) (hty:(P.globals[g]?).map (·.type)=some t) (ht:P.underlying t=some (.array n e)) (he:P.underlying e=some (.struct fs)) (hone:oneCellFields P fs=true) (hC:P.cellsOf e=fs.size) (hk:∀(j:Nat) (f:Field),fs[j]?=some f→P.underlying f.type=some (.int k))
 (h:laidMet P ((name,tab2 k rows) :: rest) W) (i:Nat) (r:List Int) (hr:rows[i]?=some r) (j:Nat) (z:Int) (hz:r[j]?=some z):W.cell? (aD g (i * fs.size+j))=some (.int k z):=by
 obtain ⟨ps,⟨g',t',cs,fuel,p,q,hg',ht',hvar,hd,_,_⟩,_⟩:=h
 obtain rfl:=Option.some.inj (hg.symm.trans hg')
 obtain rfl:=Option.some.inj (hty.symm.trans ht')
 have hc:=zik ht he hone hC hk hd i r hr j z hz
 exact (World.var?_cell hg hvar (i * fs.size+j)).trans (by simpa using hc)
end
section
open Go Go.RowKit Go.ChangeShapes Go.WideShapes Go.Deep
theorem zim {H:Type} {enc:TypeId × Value→H} {P:Program} {w:World} {base:Nat} {sp:Nat→Bool} {held:Bool} {r:Reach} {b0:Nat} {t:TypeId} {fs:Array Field} {v:Value} {d:DataW H} {p:List MemPlace}
 (hs:P.underlying t=some (.struct fs)) (hone:oneCellFields P fs=true) (hC:P.cellsOf t=fs.size) (hk:∀(j:Nat) (f:Field),fs[j]?=some f→P.underlying f.type=some (.int .i64))
 (hv:Value.okWide P w r b0 t v) (h:DataW.Trod enc P w base sp held t v d p):∃xs:List Int,xs.length=fs.size∧v=.agg (xs.map (Value.int .i64)).toArray∧∀x∈xs,(Lit.int .i64 x).wf=true:=by
 obtain ⟨cs,rfl,hsz⟩:=okWide_struct hs hv
 obtain ⟨fuel,hf⟩:=h
 obtain ⟨ys,n,_,_,hcl,hyl,hyf⟩:=DataW.trod_struct hs hf
 have hcl':cs.toList.length=fs.size:=by rw [Array.length_toList];omega
 have each:∀(j:Nat) (c:Value),cs.toList[j]?=some c→∃x,c=.int .i64 x∧(Lit.int .i64 x).wf=true:=by
  intro j c hc
  have hj:j<fs.size:=by have:=(List.getElem?_eq_some_iff.1 hc).1;omega
  have hf:fs[j]?=some fs[j]:=Array.getElem?_eq_getElem hj
  obtain ⟨ho,hc1⟩:=hone_of hone j fs[j] hf
  have hfj:=hyf j fs[j] hf
  rw [ho,hc1,List.getElem?_eq_getElem (by omega)] at hfj
  obtain ⟨x,hcs,_,hw⟩:=DataW.trod_int (hk j fs[j] hf) hfj
  refine ⟨x,?_,hw⟩
  have h0:=congrArg (·[0]?) hcs
  have e:(Value.cells (.agg cs)).toList=cs.toList:=rfl
  simp only [e] at h0
  rw [List.getElem?_take_of_lt (by omega),List.getElem?_drop,Nat.add_zero,hc] at h0
  simpa using h0
 have all:∀l:List Value,(∀c∈l,∃x,c=.int .i64 x∧(Lit.int .i64 x).wf=true)→∃xs:List Int,l=xs.map (Value.int .i64)∧∀x∈xs,(Lit.int .i64 x).wf=true:=by
  intro l
  induction l with
  | nil=>intro _;exact ⟨[],rfl,by simp⟩
  | cons c l ih =>
   intro hl
   obtain ⟨x,rfl,hx⟩:=hl c (by simp)
   obtain ⟨xs,rfl,hxs⟩:=ih (fun c hc=>hl c (by simp [hc]))
   exact ⟨x :: xs,rfl,by intro y hy;simp only [List.mem_cons] at hy;rcases hy with rfl | hy;exact hx;exact hxs y hy⟩
 obtain ⟨xs,hxs,hw⟩:=all cs.toList (fun c hc=>by
  obtain ⟨j,hj,e⟩:=List.mem_iff_getElem.1 hc
  exact each j c (by rw [←e];exact List.getElem?_eq_getElem hj))
 refine ⟨xs,?_,?_,hw⟩
 ·rw [←hcl',hxs,List.length_map]
 ·rw [←hxs]
theorem zmL {H:Type} {enc:TypeId × Value→H} {P:Program} {w:World} {base:Nat} {sp:Nat→Bool} {held:Bool} {r:Reach} {b0:Nat} {t:TypeId} {fs:Array Field} {v:Value} {d:DataW H} {p:List MemPlace}
 (hs:P.underlying t=some (.struct fs)) (hone:oneCellFields P fs=true) (hC:P.cellsOf t=fs.size) (hk:∀(j:Nat) (f:Field),fs[j]?=some f→P.underlying f.type=some (.int .i64)) (h5:fs.size=5)
 (hv:Value.okWide P w r b0 t v) (h:DataW.Trod enc P w base sp held t v d p):∃a b c d' e:Int,v=.agg #[a,b,c,d',e]:=by
 obtain ⟨xs,hl,rfl,_⟩:=zim hs hone hC hk hv h
 rw [h5] at hl
 match xs,hl with
 | [a,b,c,d',e],_=>exact ⟨a,b,c,d',e,rfl⟩
end
section
open Go Go.ChangeShapes Go.WideShapes Go.ChangeAt Go.WideMaps Go.WideElems Go.RowKit Go.Deep
theorem tag_fields (fs:Array Field) (hs:Tryz.prog.underlying 44=some (.struct fs)) (j:Nat) (f:Field) (hf:fs[j]?=some f):Tryz.prog.underlying f.type=some (.int .i64):=by
 rw [Tryz.underlying44] at hs
 injection hs with hs
 injection hs with hs
 subst hs
 match j,hf with
 | 0,hf=>injection hf with hf;subst hf;exact Tryz.underlying3
 | 1,hf=>injection hf with hf;subst hf;exact Tryz.underlying3
 | 2,hf=>injection hf with hf;subst hf;exact Tryz.underlying3
 | 3,hf=>injection hf with hf;subst hf;exact Tryz.underlying3
 | 4,hf=>injection hf with hf;subst hf;exact Tryz.underlying3
 | (j+5),hf=>simp at hf
theorem open_t44 {H:Type} {enc:TypeId × Value→H} {w:World} {base:Nat} {sp:Nat→Bool} {held:Bool} {r:Reach} {b0:Nat} {v:Value} {d:DataW H} {p:List MemPlace}
 (hv:Value.okWide Tryz.prog w r b0 44 v) (h:DataW.Trod enc Tryz.prog w base sp held 44 v d p):∃a b c d' e:Int,v=.agg #[a,b,c,d',e] :=
 zmL Tryz.underlying44 (by kernel_rfl) (by kernel_rfl) (tag_fields _ Tryz.underlying44) rfl hv h
theorem laid_o {W:World} {rest:List (String × DataW Unit)} (h:laidMet Tryz.prog (("sexton/octet.bounds",Rows.laid_sexton_octet_bounds) :: rest) W):Laid W:=by
 have hg:Tryz.prog.globalNamed "sexton/octet.bounds"=some 3:=by kernel_rfl
 have ht:(Tryz.prog.globals[3]?).map (·.type)=some 246:=by kernel_rfl
 have hv:W.var? Tryz.prog "sexton/octet.bounds"=some (([0,256,65536,0,4294967296,0,281474976710656]:List Int).map fun z=>Value.int .i64 z).toArray :=
  Lib.tabIs_of_head hg ht Tryz.underlying246 Tryz.underlying3 (by kernel_rfl) (by kernel_rfl) h
 have hc:=fun i=>World.var?_cell hg hv i
 exact ⟨hc 0,hc 1,hc 2,hc 3,hc 4,hc 5,hc 6⟩
theorem laid_t {W:World} {rest:List (String × DataW Unit)} (h:laidMet Tryz.prog (("sexton/tag.regions",Rows.laid_sexton_tag_regions) :: rest) W):zbo W:=by
 have hg:Tryz.prog.globalNamed "sexton/tag.regions"=some 1:=by kernel_rfl
 have ht:(Tryz.prog.globals[1]?).map (·.type)=some 206:=by kernel_rfl
 have hc:=zju (k:=.i64) (rows:=[[0,0],[2,1],[2,1],[24,1],[48,2],[16,2]]) hg ht Tryz.underlying206 Tryz.underlying169 (by kernel_rfl) (by kernel_rfl)
  (fun j f hf=>by
   match j,hf with
   | 0,hf=>injection hf with hf;subst hf;exact Tryz.underlying3
   | 1,hf=>injection hf with hf;subst hf;exact Tryz.underlying3
   | (j+2),hf=>simp at hf) h
 have row:∀(i:Nat) (a b:Int),([[0,0],[2,1],[2,1],[24,1],[48,2],[16,2]]:List (List Int))[i]?=some [a,b]→W.cell? (aD 1 (i * 2))=some (.int .i64 a)∧W.cell? (aD 1 (i * 2+1))=some (.int .i64 b):=fun i a b hi=>⟨hc i [a,b] hi 0 a rfl,hc i [a,b] hi 1 b rfl⟩
 intro r hr
 have hj':r=0∨r=1∨r=2∨r=3∨r=4∨r=5:=by omega
 rcases hj' with rfl | rfl | rfl | rfl | rfl | rfl
 ·exact row 0 0 0 rfl
 ·exact row 1 2 1 rfl
 ·exact row 2 2 1 rfl
 ·exact row 3 24 1 rfl
 ·exact row 4 48 2 rfl
 ·exact row 5 16 2 rfl
theorem laid_w {W:World} {rest:List (String × DataW Unit)} (h:laidMet Tryz.prog (("sexton/tag.widths",Rows.laid_sexton_tag_widths) :: rest) W):zkl W:=by
 have hg:Tryz.prog.globalNamed "sexton/tag.widths"=some 2:=by kernel_rfl
 have ht:(Tryz.prog.globals[2]?).map (·.type)=some 227:=by kernel_rfl
 have hv:W.var? Tryz.prog "sexton/tag.widths"=some (([1,1,1,6,6]:List Int).map fun z=>Value.int .i64 z).toArray :=
  Lib.tabIs_of_head hg ht Tryz.underlying227 Tryz.underlying3 (by kernel_rfl) (by kernel_rfl) h
 have hc:=fun i=>World.var?_cell hg hv i
 intro k hk
 have hj':k=0∨k=1∨k=2∨k=3∨k=4:=by omega
 rcases hj' with rfl | rfl | rfl | rfl | rfl
 ·exact hc 0
 ·exact hc 1
 ·exact hc 2
 ·exact hc 3
 ·exact hc 4
theorem laid_h {W:World} {rest:List (String × DataW Unit)} (h:laidMet Tryz.prog (("sexton/crc.halves",Rows.laid_sexton_crc_halves) :: rest) W):ziC W:=by
 have hg:Tryz.prog.globalNamed "sexton/crc.halves"=some 4:=by kernel_rfl
 have ht:(Tryz.prog.globals[4]?).map (·.type)=some 257:=by kernel_rfl
 have hv:W.var? Tryz.prog "sexton/crc.halves"=some (([0,274646895,549293790,820201905,1098587580,1361435347,1640403810,1905808397,2197175160,2460548119,2722870694,2987750089,3280807620,3553878443,3811616794,4084100981]:List Int).map fun z=>Value.int .u32 z).toArray :=
  Lib.tabIs_of_head hg ht Tryz.underlying257 Tryz.underlying152 (by kernel_rfl) (by kernel_rfl) h
 have hc:=fun i=>World.var?_cell hg hv i
 intro i hi
 have e:∀j,j<16→((([0,274646895,549293790,820201905,1098587580,1361435347,1640403810,1905808397,2197175160,2460548119,2722870694,2987750089,3280807620,3553878443,3811616794,4084100981]:List Int).map fun z=>Value.int .u32 z).toArray)[j]?=some (.int .u32 ((stps 4 j:Nat):Int)):=by
  intro j hj
  have hj':j=0∨j=1∨j=2∨j=3∨j=4∨j=5∨j=6∨j=7∨j=8∨j=9∨j=10∨j=11∨j=12∨j=13∨j=14∨j=15:=by omega
  rcases hj' with rfl | rfl | rfl | rfl | rfl | rfl | rfl | rfl | rfl | rfl | rfl | rfl | rfl | rfl | rfl | rfl <;> rfl
 exact (hc i).trans (e i hi)
end
def bl (s:ByteArray):List Nat:=s.data.toList.map UInt8.toNat
theorem zdo (s:ByteArray):(bl s).length=s.size:=by
 unfold bl
 rw [List.length_map]
 rfl
theorem zqG (s:ByteArray):∀b∈bl s,b<256:=by
 intro b hb
 simp only [bl,List.mem_map] at hb
 obtain ⟨u,_,rfl⟩:=hb
 exact u.toNat_lt
theorem zuo (s:ByteArray) (j x:Nat) (h:(bl s)[j]?=some x) (cap:Nat):(bytesRow s cap)[j]?=some (.int .u8 ((x:Nat):Int)):=by
 unfold bl at h
 rw [List.getElem?_map] at h
 obtain ⟨u,hu,rfl⟩:=Option.map_eq_some_iff.1 h
 have hu':s.data[j]?=some u:=by rw [←Array.getElem?_toList];exact hu
 have hj:j<s.data.size:=(Array.getElem?_eq_some_iff.1 hu').1
 unfold bytesRow
 rw [Array.getElem?_append_left (by rw [Array.size_map];exact hj),Array.getElem?_map,hu']
 rfl
theorem zpT {w:World} {b b' e:Nat} {v:Value} {n:Nat} {xs:List Value} (h:w.ownsRow b e 1 v n xs) (hb:b'≤b):w.ownsRow b' e 1 v n xs:=by
 refine ⟨h.1,?_⟩
 rcases h.2 with h2 | ⟨g,cap,cur,h2,h3,h4⟩
 ·exact .inl h2
 ·exact .inr ⟨g,cap,cur,h2,Nat.le_trans hb h3,h4⟩
def zeO (s:ByteArray) (w:World) (cap:Nat) (fr:Nat × Nat):World :=
 (((w.alloc (.cells #[.int .u8 (s.size:Int)] 5)).alloc (.cells (bytesRow s cap) 5 fr)).alloc
   (.cells #[.slice (some ⟨w.heap.size,0,none⟩) 1 1,.slice (some ⟨w.heap.size+1,0,none⟩) s.size cap] 45)).drew
def zeg (s:ByteArray) (w:World) (cap:Nat):List (Value × List Nat) :=
 [(.slice (some ⟨w.heap.size,0,none⟩) 1 1,[s.size]),(.slice (some ⟨w.heap.size+1,0,none⟩) s.size cap,bl s)]
theorem zkt (s:ByteArray) (w:World) (cap:Nat) (fr:Nat × Nat):Below w.heap.size w (zeO s w cap fr) :=
 ((((Below.refl _ _).alloc (Nat.le_refl _) _).alloc (by simp) _).alloc (by simp;omega) _).drew
theorem zhs (s:ByteArray) (w:World) (cap:Nat) (fr:Nat × Nat):(zeO s w cap fr).heap.size=w.heap.size+3:=by
 simp [zeO]
theorem zmS (s:ByteArray) (w:World) (cap:Nat) (fr:Nat × Nat) (hs:s.size≤255) (h1:s.size≤cap) (h2:cap≤maxLen) :
 Parts (zeO s w cap fr) (zeO s w cap fr).heap.size (some ⟨w.heap.size+1+1,0,none⟩) 2 (zeg s w cap):=by
 unfold maxLen at h2
 rw [zhs]
 refine ⟨rfl,fun _=>⟨_,0,rfl,by omega,fun j p hp=>?_⟩,fun p hp=>?_⟩
 ·match j,hp with
  | 0,hp=>simp [zeg] at hp;subst hp;simp [zeO,go_sem]
  | 1,hp=>simp [zeg] at hp;subst hp;simp [zeO,go_sem]
  | j+2,hp=>simp [zeg] at hp
 ·simp only [zeg,List.mem_cons,List.not_mem_nil,or_false] at hp
  rcases hp with rfl | rfl
  ·refine ⟨_,_,_,rfl,rfl,Nat.le_refl _,by omega,⟨by intro b hb;simp at hb;omega,fun _=>⟨_,0,rfl,by omega,fun j x hx=>?_⟩⟩,fun h=>by cases h⟩
   match j,hx with
   | 0,hx=>simp at hx;subst hx;simp [zeO,go_sem]
   | j+1,hx=>simp at hx
  ·refine ⟨_,_,_,rfl,zdo s,h1,h2,⟨zqG s,fun _=>⟨_,0,rfl,by omega,fun j x hx=>?_⟩⟩,fun h=>by cases h⟩
   have hb:=zuo s j x hx cap
   have hh:((w.alloc (.cells #[s.size] 5)).alloc (.cells (bytesRow s cap) 5 fr)).heap[w.heap.size+1]?=some (.cells (bytesRow s cap) 5 fr):=by
    have:=heap_alloc_new (w.alloc (.cells #[s.size] 5)) (.cells (bytesRow s cap) 5 fr)
    simpa using this
   have hc:=cell_of_row _ _ j _ _ _ hh
   rw [hb] at hc
   simp [zeO,go_sem,hc]
theorem zgV (s:ByteArray) (w:World) (cap:Nat):cat (zeg s w cap)=s.size :: bl s:=by simp [cat,zeg]
theorem zog (s:ByteArray) (w:World) (hs:s.size≤255) :
 Calls Tryz.prog 150 #[s] w fun e w'=>∃A' c',e=.returned (.tuple #[.slice A' (s.size+1) c',.int .i64 0])∧w'.ownsRow w.heap.size 5 1 (.slice A' (s.size+1) c') (s.size+1) (vb (s.size :: bl s))∧Below w.heap.size w w':=by
 have hconv:=fun (W:World)=>run_bytes_of_string (P:=Tryz.prog) W 9 45 5 s Tryz.underlying9 Tryz.underlying45 Tryz.underlying5
 go_enter Tryz.func150,Tryz.ntmps150
 go_wp2_with fail
 refine (zfw _ 2 2 (zeg s w _) (zeO s w _ _) (by exact zmS s w _ _ hs (grownCap_ge _ _ _ _) (grownCap_le_maxLen _ _ _ _ (by unfold maxLen;omega))) (by omega) (by rw [zgV,List.length_cons,zdo];omega)).mono ?_
 rw [zgV,List.length_cons,zdo]
 rintro e w1 ⟨A',c',rfl,hown,hbel⟩
 rw [zhs] at hown hbel
 have HO:=qj hown
 have HB:=qj hbel
 clear hown hbel hconv
 go_wp2_with fail
 go_ret2
 exact ⟨A',c',rfl,zpT HO.out (by omega),(zkt s w _ _).trans (HB.out.mono (by omega))⟩
end Go.Proofs.YtdbpdhlecgoclaaGreatDoor
