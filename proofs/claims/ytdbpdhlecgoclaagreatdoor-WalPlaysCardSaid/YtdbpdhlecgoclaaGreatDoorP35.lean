/-
  The cells of a told list: the k-th report lies in the list's row.
-/
import Derived.Test.YtdbpdhlecgoclaaGreatDoorP00
import Derived.Test.YtdbpdhlecgoclaaGreatDoorP06
import Derived.Test.YtdbpdhlecgoclaaGreatDoorP07
import Derived.Test.YtdbpdhlecgoclaaGreatDoorP12
import Derived.Test.YtdbpdhlecgoclaaGreatDoorP16
import Derived.Test.YtdbpdhlecgoclaaGreatDoorP18
import Derived.Test.YtdbpdhlecgoclaaGreatDoorP20
import Derived.Test.YtdbpdhlecgoclaaGreatDoorP26
import Derived.Test.YtdbpdhlecgoclaaGreatDoorP27
import Derived.Test.YtdbpdhlecgoclaaGreatDoorP28
import Derived.Test.YtdbpdhlecgoclaaGreatDoorP33
import Derived.Test.YtdbpdhlecgoclaaGreatDoorP34
import Derived.Deep.RegionHeld3
import Derived.WalkMore
import Derived.Deep.DeepCutAuto
namespace Go.Proofs.YtdbpdhlecgoclaaGreatDoor
set_option maxRecDepth 100000
set_option maxHeartbeats 6400000
open Go Go.RowKit
theorem zgS (x:Rpt):(rptC x).length=11:=rfl
theorem zhv (p:Rpt) (ps:List Rpt):zcu (p :: ps)=rptC p++zcu ps:=by
 unfold zcu
 rw [List.flatMap_cons]
theorem ziv {x:Rpt} {j:Nat} (hj:j<11):∀(ps:List Rpt) (k:Nat),ps[k]?=some x→(zcu ps)[k * 11+j]?=(rptC x)[j]?
 | [],k,h=>by simp at h
 | p :: ps,0,h=>by
  rw [zhv,List.getElem?_append_left (by rw [zgS];omega)]
  simp at h
  rw [h]
  simp
 | p :: ps,k+1,h=>by
  rw [zhv,List.getElem?_append_right (by rw [zgS];omega),zgS,show (k+1) * 11+j-11=k * 11+j by omega]
  exact ziv hj ps k (by simpa using h)
theorem zrw {w:World} {base:Nat} {v:Value} {ps:List Rpt} (h:w.ownsRow base 115 11 v ps.length (zcu ps)) :
 (v=.slice none 0 0∧ps=[])∨∃g cap,v=.slice (some ⟨g,0,none⟩) ps.length cap∧base≤g∧ps.length≤cap∧∀(k:Nat) (x:Rpt),ps[k]?=some x→∀j,j<11→w.cell? (aD g (k * 11+j))=(rptC x)[j]?:=by
 rcases h.2 with ⟨rfl,h0⟩ | ⟨g,cap,cur,rfl,hg,hrow,hn,_,_,ht⟩
 ·exact .inl ⟨rfl,List.length_eq_zero_iff.1 h0⟩
 ·refine .inr ⟨g,cap,rfl,hg,hn,fun k x hk j hj=>?_⟩
  have hkl:k<ps.length:=(List.getElem?_eq_some_iff.1 hk).1
  rw [cell_of_row w g _ _ _ _ hrow,←ziv hj ps k hk,←ht,List.getElem?_take_of_lt (by omega),Array.getElem?_toList]
def RowR (w:World) (A:Option Addr) (ps:List Rpt):Prop:=∀(k:Nat) (x:Rpt),ps[k]?=some x→∃g,A=some ⟨g,0,none⟩∧g<w.heap.size∧∀j,j<11→w.cell? ⟨g,k * 11+j,none⟩=(rptC x)[j]?
theorem RowR.ext {w w':World} {A:Option Addr} {ps:List Rpt} (h:RowR w A ps) (hx:Ext w w'):RowR w' A ps:=fun k x hk=>by
 obtain ⟨g,hA,hlt,hc⟩:=h k x hk
 exact ⟨g,hA,Nat.lt_of_lt_of_le hlt hx.size,fun j hj=>by
  rw [←hc j hj]
  exact World.cell?_of_block (hx.block g hlt)⟩
theorem zjh {w:World} {base L:Nat} {v:Value} {ps:List Rpt} (hL:ps.length=L) (h:w.ownsRow base 115 11 v L (zcu ps)):∃A c,v=.slice A L c∧RowR w A ps:=by
 subst hL
 rcases zrw h with ⟨rfl,rfl⟩ | ⟨g,cap,rfl,_,_,hc⟩
 ·exact ⟨none,0,rfl,fun k x hk=>by simp at hk⟩
 ·refine ⟨_,cap,rfl,fun k x hk=>⟨g,rfl,?_,hc k x hk⟩⟩
  have h0:=hc k x hk 0 (by omega)
  exact World.block_lt_of_cell? w _ h0
theorem zos (i x y:Int) (st k:Nat) (cl sq:Int) (ok:Nat) (key old val:ByteArray) (w:World) :
 (binOp .neq 115 (.agg #[i,st,x,y,k,cl,sq,ok,key,old,val]) (.agg #[i,st,x,y,k,cl,sq,ok,key,old,val])).run Tryz.prog w=.ok (.bool false) w:=by
 have hf:Tryz.prog.stoodInHeld 115=false:=by kernel_rfl
 have hu:=Tryz.underlying115
 have hub:=Tryz.underlying38
 have hue:=Tryz.underlying42
 have huo:=Tryz.underlying40
 rw [run_neq_struct,run_equalIn_agg _ _ _ _ _ (by rw [Program.fieldsOf,hu]) hf,Program.fieldsOf,hu]
 simp [Op.eqFields,go_sem]
theorem zjj {w:World} (A1 A2:Option Addr) (L c1 c2:Nat) (ps:List Rpt) (hL:ps.length=L) (hm:L≤24) (h1:RowR w A1 ps) (h2:RowR w A2 ps) :
 (cL 19 #[.slice A1 L c1,.slice A2 L c2] w (.bool true):Prop):=by
 have H1:=qj h1
 have H2:=qj h2
 have HL:=qj hL
 clear h1 h2 hL
 go_enter Tryz.func19,Tryz.ntmps19
 go_wp2_with fail
 go_loopw [5] (fun i wr=>∃k:Nat,k≤L∧i=.int .i64 (k:Int)∧Hid (Ext w wr)) (fun i _=>L-(intOf i).toNat)
 case atStart=>exact ⟨0,Nat.zero_le _,rfl,qj (Ext.refl w)⟩
 case round =>
  obtain ⟨k,hk,rfl,HX⟩:=hrel
  by_cases hlt:k<L
  ·obtain ⟨R,hR⟩:∃R,ps[k]?=some R:=⟨ps[k]'(by have:=HL.out;omega),List.getElem?_eq_getElem _⟩
   obtain ⟨g1,rfl,_,q1⟩:=H1.out.ext HX.out k R hR
   obtain ⟨g2,rfl,_,q2⟩:=H2.out.ext HX.out k R hR
   have hc:wr.cell? (aD g1 (k * 11))=some (.int .i64 R.ix)∧wr.cell? (aD g1 (k * 11+1))=some (.int .u8 (R.st:Int))∧wr.cell? (aD g1 (k * 11+2))=some (.int .i64 R.x)∧wr.cell? (aD g1 (k * 11+3))=some (.int .i64 R.y)∧wr.cell? (aD g1 (k * 11+4))=some (.int .u8 (R.e.k:Int))∧wr.cell? (aD g1 (k * 11+5))=some (.int .i64 R.e.cl)∧wr.cell? (aD g1 (k * 11+6))=some (.int .i64 R.e.sq)∧wr.cell? (aD g1 (k * 11+7))=some (.int .u8 (R.e.ok:Int))∧wr.cell? (aD g1 (k * 11+8))=some (.string R.e.key)∧wr.cell? (aD g1 (k * 11+9))=some (.string R.e.old)∧wr.cell? (aD g1 (k * 11+10))=some (.string R.e.val)∧wr.cell? (aD g2 (k * 11))=some (.int .i64 R.ix)∧wr.cell? (aD g2 (k * 11+1))=some (.int .u8 (R.st:Int))∧wr.cell? (aD g2 (k * 11+2))=some (.int .i64 R.x)∧wr.cell? (aD g2 (k * 11+3))=some (.int .i64 R.y)∧wr.cell? (aD g2 (k * 11+4))=some (.int .u8 (R.e.k:Int))∧wr.cell? (aD g2 (k * 11+5))=some (.int .i64 R.e.cl)∧wr.cell? (aD g2 (k * 11+6))=some (.int .i64 R.e.sq)∧wr.cell? (aD g2 (k * 11+7))=some (.int .u8 (R.e.ok:Int))∧wr.cell? (aD g2 (k * 11+8))=some (.string R.e.key)∧wr.cell? (aD g2 (k * 11+9))=some (.string R.e.old)∧wr.cell? (aD g2 (k * 11+10))=some (.string R.e.val):=⟨q1 0 (by omega),q1 1 (by omega),q1 2 (by omega),q1 3 (by omega),q1 4 (by omega),q1 5 (by omega),q1 6 (by omega),q1 7 (by omega),q1 8 (by omega),q1 9 (by omega),q1 10 (by omega),q2 0 (by omega),q2 1 (by omega),q2 2 (by omega),q2 3 (by omega),q2 4 (by omega),q2 5 (by omega),q2 6 (by omega),q2 7 (by omega),q2 8 (by omega),q2 9 (by omega),q2 10 (by omega)⟩
   have HC:=qj hc
   clear q1 q2 hR
   go_wp2_with fail
   have hq:=fun V=>zos (i:=R.ix) (st:=R.st) (x:=R.x) (y:=R.y) (k:=R.e.k) (cl:=R.e.cl) (sq:=R.e.sq) (ok:=R.e.ok) (key:=R.e.key) (old:=R.e.old) (val:=R.e.val) (w:=V)
   go_region_held3 (fun w'=>w'.cell? (aD g1 (k * 11))=some (.int .i64 R.ix)∧w'.cell? (aD g1 (k * 11+1))=some (.int .u8 (R.st:Int))∧w'.cell? (aD g1 (k * 11+2))=some (.int .i64 R.x)∧w'.cell? (aD g1 (k * 11+3))=some (.int .i64 R.y)∧w'.cell? (aD g1 (k * 11+4))=some (.int .u8 (R.e.k:Int))∧w'.cell? (aD g1 (k * 11+5))=some (.int .i64 R.e.cl)∧w'.cell? (aD g1 (k * 11+6))=some (.int .i64 R.e.sq)∧w'.cell? (aD g1 (k * 11+7))=some (.int .u8 (R.e.ok:Int))∧w'.cell? (aD g1 (k * 11+8))=some (.string R.e.key)∧w'.cell? (aD g1 (k * 11+9))=some (.string R.e.old)∧w'.cell? (aD g1 (k * 11+10))=some (.string R.e.val)∧w'.cell? (aD g2 (k * 11))=some (.int .i64 R.ix)∧w'.cell? (aD g2 (k * 11+1))=some (.int .u8 (R.st:Int))∧w'.cell? (aD g2 (k * 11+2))=some (.int .i64 R.x)∧w'.cell? (aD g2 (k * 11+3))=some (.int .i64 R.y)∧w'.cell? (aD g2 (k * 11+4))=some (.int .u8 (R.e.k:Int))∧w'.cell? (aD g2 (k * 11+5))=some (.int .i64 R.e.cl)∧w'.cell? (aD g2 (k * 11+6))=some (.int .i64 R.e.sq)∧w'.cell? (aD g2 (k * 11+7))=some (.int .u8 (R.e.ok:Int))∧w'.cell? (aD g2 (k * 11+8))=some (.string R.e.key)∧w'.cell? (aD g2 (k * 11+9))=some (.string R.e.old)∧w'.cell? (aD g2 (k * 11+10))=some (.string R.e.val))
    (first | with_reducible exact hc | assumption | go_keep)
    (fail)
   have HXn:=qj (HX.out.trans (Ext.refl _).drew)
   clear hc hq HC
   go_wp2_with fail
   go_roundw
   case rel=>exact ⟨k+1,by omega,by go_num,HXn⟩
   case measure=>simp [intOf];omega
  ·obtain rfl:k=L:=by omega
   go_wp2_with fail
   go_ret
   exact ⟨rfl,HX.out⟩





theorem zkO {m:DM} {E S:Int} {L:List Nat}:∀k,(wrsE (E,m) S L k).2.size=m.size
 | 0=>rfl
 | k+1=>by
  have ih:=zkO (m:=m) (E:=E) (S:=S) (L:=L) k
  show (unE (wrsE (E,m) S L k) _).2.size=_
  unfold unE
  split
  ·rw [zeY];exact ih
  ·exact ih
theorem zki {m:DM} {E S:Int} {L:List Nat} (W:Nat):(wrfE (E,m) S L W).2.size=m.size:=by
 have h:=zkO (m:=m) (E:=E) (S:=S) (L:=L) W
 unfold wrfE unE
 split
 ·rw [←h]
  generalize (wrsE (E,m) S L W).2=m1
  exact zha m1
 ·exact h
theorem ziT {m:DM} {s:Nat} {r inc i x y:Int} {e:Ent} (hr:0≤r∧r≤6) (hc:1≤inc∧inc≤1099511627776) (hs:s≤1099511627752):(m.putA s r inc i x y e).2.waits.length≤m.waits.length+18∧(m.putA s r inc i x y e).2.size=m.size:=by
 rcases zix (m:=m) (s:=s) (r:=r) (inc:=inc) (i:=i) (x:=x) (y:=y) (e:=e) with ⟨_,hp⟩ | ⟨_,hp⟩ | ⟨⟨hl,hv,_⟩,hp⟩
 ·rw [hp];exact ⟨Nat.le_add_right _ _,rfl⟩
 ·rw [hp];exact ⟨Nat.le_add_right _ _,rfl⟩
 ·rw [hp]
  obtain ⟨n,hpq,hn24⟩:=zcT (i:=i)
  obtain ⟨k,hk,hk2⟩:∃k:Nat,m.nextW r i=(k:Int)∧k<2:=by
   rcases zfF m r i with e | e
   ·exact ⟨0,by rw [e];rfl,by omega⟩
   ·exact ⟨1,by rw [e];rfl,by omega⟩
  have hp48:2 * n+k<48:=by omega
  have hm3:=zqy (r:=r) (inc:=inc) (i:=i) hr (by omega) hc hn24
  have hm4:=zqB (r:=r) (inc:=inc) (i:=i) hr (by omega) hc hp48
  have h4:=zmj (x:=x) (y:=y) hm4 hv.2
  have h3:=zmr (x:=x) (y:=y) (k:=k) hm3
  have hl4:(frmW r inc i ((2 * n+k:Nat):Int) x y e).length=128:=by unfold frmW;rw [(zbd h4).1];rfl
  have hl3:(recW r inc i (n:Int) x y (k:Int)).length=64:=by unfold recW;rw [(zbd h3).1];rfl
  have hput:m.putW r inc i x y e=wrfE (wrfE (0,m) (zai 4 ((2 * n+k:Nat):Int)) (frmW r inc i ((2 * n+k:Nat):Int) x y e) 2) (zai 3 (n:Int)) (recW r inc i (n:Int) x y (k:Int)) 1:=by
   have he:((2 * n+k:Nat):Int)=2 * (n:Int)+(k:Int):=by omega
   unfold DM.putW
   rw [hpq,hk,←zhy (by rw [←he];exact hl4) hl3,he]
   rfl
  rw [hput]
  have w1:=zem (m:=m) (E:=0) (S:=zai 4 ((2 * n+k:Nat):Int)) (L:=frmW r inc i ((2 * n+k:Nat):Int) x y e) 2
  have s1:=zki (m:=m) (E:=0) (S:=zai 4 ((2 * n+k:Nat):Int)) (L:=frmW r inc i ((2 * n+k:Nat):Int) x y e) 2
  generalize wrfE (0,m) (zai 4 ((2 * n+k:Nat):Int)) (frmW r inc i ((2 * n+k:Nat):Int) x y e) 2=Z at *
  obtain ⟨E1,m1⟩:=Z
  have w2:=zem (m:=m1) (E:=E1) (S:=zai 3 (n:Int)) (L:=recW r inc i (n:Int) x y (k:Int)) 1
  have s2:=zki (m:=m1) (E:=E1) (S:=zai 3 (n:Int)) (L:=recW r inc i (n:Int) x y (k:Int)) 1
  dsimp only at w1 s1
  exact ⟨by omega,s2.trans s1⟩
theorem zun {s:Nat} {n:Int} (hs:s≤1099511627752):(if cutB s n=true then n.toNat else s)≤1099511627752:=by
 split
 ·rename_i h
  unfold cutB inI at h
  simp at h
  omega
 ·exact hs
theorem zoQ (w:World) (a:Act6) (h:a.Ok w w.heap.size):Acts6 (w.alloc (.cells a 50)) (w.alloc (.cells a 50)).heap.size (some ⟨w.heap.size,0,none⟩) 1 1 [a]:=by
 refine ⟨rfl,Nat.le_refl _,by omega,fun b hb=>?_,fun _=>⟨w.heap.size,0,rfl,by simp,fun j b hb k v hv=>?_⟩,fun h=>by cases h⟩
 ·obtain rfl:=List.mem_singleton.1 hb
  exact (h.below ((Ext.refl w).alloc _)).more ((Ext.refl w).alloc _).size
 ·match j,hb with
  | 0,hb =>
   injection hb with hb
   subst hb
   rw [World.cell?_alloc_new]
   rw [show 0+(0 * 12+k)=k by omega]
   exact (List.getElem?_toArray ..).trans hv
def ztk (n:Nat) (l:List ActL) (w:World) (e:Ending) (w':World):Prop:=∃b:Bool,e=.returned (.bool b)∧Ext w w'∧(b=false→n≤40∧∀a∈l,a.o.bn≤100∧a.o.act.bn≤200∧a.o.act.kn≤100)
theorem zoa (V:World) (a:Act6) (h:a.Ok V V.heap.size) (G:Nat) (hG:G=V.heap.size):Calls Tryz.prog 21 #[.slice (some ⟨G,0,none⟩) 1 1] (V.alloc (.cells a 50)) fun r w'=>∃b:Bool,r=.returned (.bool b)∧Ext V w'∧(b=false→a.bn≤100∧a.act.bn≤200∧a.act.kn≤100):=by
 subst hG
 refine (zoO (Nat.le_refl _) _ 1 1 [a] (zoQ V a h)).mono ?_
 rintro r w' ⟨b,h1,h2,h3⟩
 exact ⟨b,h1,((Ext.refl V).alloc _).trans h2,fun hb=>(h3 hb).2 a (List.mem_singleton.2 rfl)⟩
theorem zpx {w:World} (A:Option Addr) (n c:Nat) (l:List ActL) (h:Ls ActL.cells 24 w w.heap.size A n c l) (ho:∀a∈l,a.Ok w w.heap.size) :
 Calls Tryz.prog 4 #[.slice A n c] w (ztk n l w):=by
 have HA:=qj h
 have HO:=qj ho
 have hcap:=h.cap
 have hmost:=h.most
 have hn:=Nat.zero_le n
 clear h ho
 go_enter Tryz.func4,Tryz.ntmps4
 by_cases hn40:40<n
 ·go_wp2_with fail
  go_ret
  exact ⟨true,rfl,Ext.refl _,fun h=>by cases h⟩
 go_wp2_with fail
 go_loopw [3] (fun i wr=>∃k:Nat,k≤n∧i=.int .i64 k∧Hid (Ext w wr)∧Hid (∀a∈l.take k,a.o.bn≤100∧a.o.act.bn≤200∧a.o.act.kn≤100)) (fun i _=>n-(intOf i).toNat)
 case atStart=>exact ⟨0,Nat.zero_le _,rfl,qj (Ext.refl _),qj fun a ha=>by simp at ha⟩
 case round =>
  obtain ⟨k,hkn,rfl,HX,HT⟩:=hrel
  by_cases hlt:k<n
  ·obtain ⟨g,o,a,rfl,hg,ha,hc⟩:=HA.out.at_ hlt
   have HAL:=qj ha
   have HXA:=qj (HX.out.alloc (.cells #[a.e.ok,a.e.key,a.e.old,a.e.val] 40))
   have HOK:=qj (((HO.out a (List.mem_of_getElem? ha)).o.below HXA.out).more HXA.out.size)
   have c0:wr.cell? (aD g (o+k * 24))=some (.int .u8 (a.k:Int)):=(Below.cell HX.out (p:=⟨g,o+k * 24,none⟩) hg).trans (hc 0 _ rfl)
   have c1:wr.cell? (aD g (o+k * 24+1))=some (.int .i64 a.i):=(Below.cell HX.out (p:=⟨g,o+k * 24+1,none⟩) hg).trans (hc 1 _ rfl)
   have c2:wr.cell? (aD g (o+k * 24+2))=some (.int .i64 a.n):=(Below.cell HX.out (p:=⟨g,o+k * 24+2,none⟩) hg).trans (hc 2 _ rfl)
   have c3:wr.cell? (aD g (o+k * 24+3))=some (.int .i64 a.x):=(Below.cell HX.out (p:=⟨g,o+k * 24+3,none⟩) hg).trans (hc 3 _ rfl)
   have c4:wr.cell? (aD g (o+k * 24+4))=some (.int .i64 a.y):=(Below.cell HX.out (p:=⟨g,o+k * 24+4,none⟩) hg).trans (hc 4 _ rfl)
   have c5:wr.cell? (aD g (o+k * 24+5))=some (.int .u8 (a.e.k:Int)):=(Below.cell HX.out (p:=⟨g,o+k * 24+5,none⟩) hg).trans (hc 5 _ rfl)
   have c6:wr.cell? (aD g (o+k * 24+6))=some (.int .i64 a.e.cl):=(Below.cell HX.out (p:=⟨g,o+k * 24+6,none⟩) hg).trans (hc 6 _ rfl)
   have c7:wr.cell? (aD g (o+k * 24+7))=some (.int .i64 a.e.sq):=(Below.cell HX.out (p:=⟨g,o+k * 24+7,none⟩) hg).trans (hc 7 _ rfl)
   have c8:wr.cell? (aD g (o+k * 24+8))=some (.int .u8 (a.e.ok:Int)):=(Below.cell HX.out (p:=⟨g,o+k * 24+8,none⟩) hg).trans (hc 8 _ rfl)
   have c9:wr.cell? (aD g (o+k * 24+9))=some (.string a.e.key):=(Below.cell HX.out (p:=⟨g,o+k * 24+9,none⟩) hg).trans (hc 9 _ rfl)
   have c10:wr.cell? (aD g (o+k * 24+10))=some (.string a.e.old):=(Below.cell HX.out (p:=⟨g,o+k * 24+10,none⟩) hg).trans (hc 10 _ rfl)
   have c11:wr.cell? (aD g (o+k * 24+11))=some (.string a.e.val):=(Below.cell HX.out (p:=⟨g,o+k * 24+11,none⟩) hg).trans (hc 11 _ rfl)
   have c12:wr.cell? (aD g (o+k * 24+12))=some (.bool a.o.sl):=(Below.cell HX.out (p:=⟨g,o+k * 24+12,none⟩) hg).trans (hc 12 _ rfl)
   have c13:wr.cell? (aD g (o+k * 24+13))=some (.int .i64 a.o.ta):=(Below.cell HX.out (p:=⟨g,o+k * 24+13,none⟩) hg).trans (hc 13 _ rfl)
   have c14:wr.cell? (aD g (o+k * 24+14))=some (.int .i64 a.o.tb):=(Below.cell HX.out (p:=⟨g,o+k * 24+14,none⟩) hg).trans (hc 14 _ rfl)
   have c15:wr.cell? (aD g (o+k * 24+15))=some (.int .i64 a.o.tc):=(Below.cell HX.out (p:=⟨g,o+k * 24+15,none⟩) hg).trans (hc 15 _ rfl)
   have c16:wr.cell? (aD g (o+k * 24+16))=some (.int .i64 a.o.td):=(Below.cell HX.out (p:=⟨g,o+k * 24+16,none⟩) hg).trans (hc 16 _ rfl)
   have c17:wr.cell? (aD g (o+k * 24+17))=some (.int .i64 a.o.te):=(Below.cell HX.out (p:=⟨g,o+k * 24+17,none⟩) hg).trans (hc 17 _ rfl)
   have c18:wr.cell? (aD g (o+k * 24+18))=some (.slice a.o.bA a.o.bn a.o.bc):=(Below.cell HX.out (p:=⟨g,o+k * 24+18,none⟩) hg).trans (hc 18 _ rfl)
   have c19:wr.cell? (aD g (o+k * 24+19))=some (.int .u8 (a.o.act.kind:Int)):=(Below.cell HX.out (p:=⟨g,o+k * 24+19,none⟩) hg).trans (hc 19 _ rfl)
   have c20:wr.cell? (aD g (o+k * 24+20))=some (.int .i64 a.o.act.sec):=(Below.cell HX.out (p:=⟨g,o+k * 24+20,none⟩) hg).trans (hc 20 _ rfl)
   have c21:wr.cell? (aD g (o+k * 24+21))=some (.int .i64 a.o.act.num):=(Below.cell HX.out (p:=⟨g,o+k * 24+21,none⟩) hg).trans (hc 21 _ rfl)
   have c22:wr.cell? (aD g (o+k * 24+22))=some (.slice a.o.act.bA a.o.act.bn a.o.act.bc):=(Below.cell HX.out (p:=⟨g,o+k * 24+22,none⟩) hg).trans (hc 22 _ rfl)
   have c23:wr.cell? (aD g (o+k * 24+23))=some (.slice a.o.act.kA a.o.act.kn a.o.act.kc):=(Below.cell HX.out (p:=⟨g,o+k * 24+23,none⟩) hg).trans (hc 23 _ rfl)
   clear hc ha
   have hgr:g<wr.heap.size:=Nat.lt_of_lt_of_le hg HX.out.size
   by_cases k1:100<a.e.key.size
   ·have h1:¬(a.e.key.size:Int)≤100:=by omega
    clear k1
    go_wp2_with fail
    go_ret
    exact ⟨true,rfl,HXA.out,fun h=>by cases h⟩
   by_cases k2:100<a.e.old.size
   ·have h1:(a.e.key.size:Int)≤100:=by omega
    have h2:¬(a.e.old.size:Int)≤100:=by omega
    clear k1 k2
    go_wp2_with fail
    go_ret
    exact ⟨true,rfl,HXA.out,fun h=>by cases h⟩
   by_cases k3:100<a.e.val.size
   ·have h1:(a.e.key.size:Int)≤100:=by omega
    have h2:(a.e.old.size:Int)≤100:=by omega
    have h3:¬(a.e.val.size:Int)≤100:=by omega
    clear k1 k2 k3
    go_wp2_with fail
    go_ret
    exact ⟨true,rfl,HXA.out,fun h=>by cases h⟩
   have h1:(a.e.key.size:Int)≤100:=by omega
   have h2:(a.e.old.size:Int)≤100:=by omega
   have h3:(a.e.val.size:Int)≤100:=by omega
   clear k1 k2 k3
   go_wp2_with fail
   refine (zoa (wr.alloc (.cells #[a.e.ok,a.e.key,a.e.old,a.e.val] 40)) a.o HOK.out (wr.heap.size+1) (by simp)).mono ?_
   rintro e w2 ⟨b,rfl,hx,hgr⟩
   have HX2:=qj (HXA.out.trans hx)
   have HGR:=qj hgr
   clear hgr hx c0 c1 c2 c3 c4 c5 c6 c7 c8 c9 c10 c11 c12 c13 c14 c15 c16 c17 c18 c19 c20 c21 c22 c23
   cases b with
   | true =>
    go_wp2_with fail
    go_ret
    exact ⟨true,rfl,HX2.out,fun h=>by cases h⟩
   | false =>
    go_wp2_with fail
    go_roundw
    case rel=>exact ⟨k+1,by omega,by go_num,HX2,qj fun b hb'=>by
     rw [List.take_add_one,HAL.out] at hb'
     rcases List.mem_append.1 hb' with h | h
     ·exact HT.out b h
     ·simp only [Option.toList_some,List.mem_singleton] at h
      subst h
      exact HGR.out (by trivial)⟩
    case measure=>simp [intOf];omega
  ·go_wp2_with fail
   go_ret
   refine ⟨false,rfl,HX.out,fun _=>⟨by omega,fun a ha=>HT.out a ?_⟩⟩
   rw [List.take_of_length_le (by have:=HA.out.len;omega)]
   exact ha
end Go.Proofs.YtdbpdhlecgoclaaGreatDoor
