/-
  Lists of ghost's acts (a bool,a tag,a list of bytes,an act of a disk) that came in,opened: what their cells hold.
-/
import Derived.Test.YtdbpdhlecgoclaaGreatDoorP00
import Derived.Test.YtdbpdhlecgoclaaGreatDoorP01
import Derived.Test.YtdbpdhlecgoclaaGreatDoorP02
import Derived.Test.YtdbpdhlecgoclaaGreatDoorP05
import Derived.Test.YtdbpdhlecgoclaaGreatDoorP06
import Derived.Test.YtdbpdhlecgoclaaGreatDoorP11
import Derived.Lib.Hide
import Derived.Laws.OwnMore
import Derived.Deep.RegionHeld3
namespace Go.Proofs.YtdbpdhlecgoclaaGreatDoor
set_option maxRecDepth 100000
set_option maxHeartbeats 6400000
open Go Go.RowKit
section
open Go Go.RowKit Go.ChangeShapes Go.WideShapes Go.Deep
structure Act6 where
 sl:Bool:=false
 ta:Int:=0
 tb:Int:=0
 tc:Int:=0
 td:Int:=0
 te:Int:=0
 bA:Option Addr:=none
 bn:Nat:=0
 bc:Nat:=0
 bl:List Nat:=[]
 act:Act5:={}
instance (x:Act6):CoeDep Act6 x (Array Value):=⟨#[.bool x.sl,.int .i64 x.ta,.int .i64 x.tb,.int .i64 x.tc,.int .i64 x.td,.int .i64 x.te,.slice x.bA x.bn x.bc,.int .u8 (x.act.kind:Int),.int .i64 x.act.sec,.int .i64 x.act.num,.slice x.act.bA x.act.bn x.act.bc,.slice x.act.kA x.act.kn x.act.kc]⟩
instance (x:Act6):CoeDep Act6 x (List Value):=⟨[.bool x.sl,.int .i64 x.ta,.int .i64 x.tb,.int .i64 x.tc,.int .i64 x.td,.int .i64 x.te,.slice x.bA x.bn x.bc,.int .u8 (x.act.kind:Int),.int .i64 x.act.sec,.int .i64 x.act.num,.slice x.act.bA x.act.bn x.act.bc,.slice x.act.kA x.act.kn x.act.kc]⟩
instance:Inhabited Act6:=⟨{}⟩
def Act6.cells (x:Act6):List Value:=[.bool x.sl,.int .i64 x.ta,.int .i64 x.tb,.int .i64 x.tc,.int .i64 x.td,.int .i64 x.te,.slice x.bA x.bn x.bc,.int .u8 (x.act.kind:Int),.int .i64 x.act.sec,.int .i64 x.act.num,.slice x.act.bA x.act.bn x.act.bc,.slice x.act.kA x.act.kn x.act.kc]
structure Act6.Ok (x:Act6) (w:World) (B:Nat):Prop where
 body:Bs w B x.bA x.bn x.bc x.bl
 act:x.act.Ok w B
theorem Act6.Ok.below {a:Act6} {w w':World} {B:Nat} (h:a.Ok w B) (hb:Below B w w'):a.Ok w' B:=⟨h.body.below hb,h.act.below hb⟩
theorem Act6.Ok.more {a:Act6} {w:World} {B B':Nat} (h:a.Ok w B) (hB:B≤B'):a.Ok w B':=⟨h.body.more hB,h.act.more hB⟩
structure Acts6 (w:World) (B:Nat) (A:Option Addr) (n c:Nat) (l:List Act6):Prop where
 len:l.length=n
 cap:n≤c
 most:c≤9223372036854775807
 each:∀a∈l,a.Ok w B
 rd:0<n→∃g o,A=some ⟨g,o,none⟩∧g<B∧∀j a,l[j]?=some a→∀k v,a.cells[k]?=some v→w.cell? ⟨g,o+(j * 12+k),none⟩=some v
 nil_:A=none→c=0
def zgF (w:World) (g o:Nat) (x:Act6):Prop :=
 w.cell? ⟨g,o,none⟩=some (.bool x.sl)∧w.cell? ⟨g,o+1,none⟩=some (.int .i64 x.ta)∧w.cell? ⟨g,o+2,none⟩=some (.int .i64 x.tb)∧w.cell? ⟨g,o+3,none⟩=some (.int .i64 x.tc)∧w.cell? ⟨g,o+4,none⟩=some (.int .i64 x.td)∧w.cell? ⟨g,o+5,none⟩=some (.int .i64 x.te) ∧
 w.cell? ⟨g,o+6,none⟩=some (.slice x.bA x.bn x.bc)∧w.cell? ⟨g,o+7,none⟩=some (.int .u8 (x.act.kind:Int))∧w.cell? ⟨g,o+8,none⟩=some (.int .i64 x.act.sec)∧w.cell? ⟨g,o+9,none⟩=some (.int .i64 x.act.num) ∧
 w.cell? ⟨g,o+10,none⟩=some (.slice x.act.bA x.act.bn x.act.bc)∧w.cell? ⟨g,o+11,none⟩=some (.slice x.act.kA x.act.kn x.act.kc)
theorem zgF.below {w w':World} {B g o:Nat} {x:Act6} (h:zgF w g o x) (hb:Below B w w') (hg:g<B):zgF w' g o x:=by
 obtain ⟨h0,h1,h2,h3,h4,h5,h6,h7,h8,h9,h10,h11⟩:=h
 exact ⟨(hb.cell (p:=⟨g,o,none⟩) hg).trans h0,(hb.cell (p:=⟨g,o+1,none⟩) hg).trans h1,(hb.cell (p:=⟨g,o+2,none⟩) hg).trans h2,(hb.cell (p:=⟨g,o+3,none⟩) hg).trans h3,(hb.cell (p:=⟨g,o+4,none⟩) hg).trans h4,(hb.cell (p:=⟨g,o+5,none⟩) hg).trans h5,
  (hb.cell (p:=⟨g,o+6,none⟩) hg).trans h6,(hb.cell (p:=⟨g,o+7,none⟩) hg).trans h7,(hb.cell (p:=⟨g,o+8,none⟩) hg).trans h8,(hb.cell (p:=⟨g,o+9,none⟩) hg).trans h9,(hb.cell (p:=⟨g,o+10,none⟩) hg).trans h10,(hb.cell (p:=⟨g,o+11,none⟩) hg).trans h11⟩
theorem Acts6.at_ {w:World} {B:Nat} {A:Option Addr} {n c:Nat} {l:List Act6} (h:Acts6 w B A n c l) {j:Nat} (hj:j<n):∃g o a,A=some ⟨g,o,none⟩∧g<B∧l[j]?=some a∧a.Ok w B∧zgF w g (o+j * 12) a:=by
 obtain ⟨g,o,e,hg,hc⟩:=h.rd (by omega)
 have hj':j<l.length:=by rw [h.len];exact hj
 have ha:l[j]?=some l[j]:=List.getElem?_eq_getElem hj'
 have cell:=fun (k:Nat) (v:Value) (hv:(l[j]).cells[k]?=some v)=>hc j _ ha k v hv
 exact ⟨g,o,l[j],e,hg,ha,h.each _ (List.getElem_mem hj'),cell 0 _ rfl,cell 1 _ rfl,cell 2 _ rfl,cell 3 _ rfl,cell 4 _ rfl,cell 5 _ rfl,cell 6 _ rfl,cell 7 _ rfl,cell 8 _ rfl,cell 9 _ rfl,cell 10 _ rfl,cell 11 _ rfl⟩
section
variable {H:Type} {enc:TypeId × Value→H} {P:Program} {w:World} {base:Nat} {spare:Nat→Bool} {held:Bool}
structure Act6Ty (P:Program) (e tq tt ta t8 ti tb tk e8 eb:TypeId):Prop where
 fs:∃f0 f1 f2 f3:Field,P.underlying e=some (.struct #[f0,f1,f2,f3])∧(f0.type=tq∧f0.offset=0)∧(f1.type=tt∧f1.offset=1)∧(f2.type=tb∧f2.offset=6)∧(f3.type=ta∧f3.offset=7)
 ts:∃f0 f1 f2 f3 f4:Field,P.underlying tt=some (.struct #[f0,f1,f2,f3,f4])∧(f0.type=ti∧f0.offset=0)∧(f1.type=ti∧f1.offset=1)∧(f2.type=ti∧f2.offset=2)∧(f3.type=ti∧f3.offset=3)∧(f4.type=ti∧f4.offset=4)
 cells:P.cellsOf e=12
 tcells:P.cellsOf tt=5
 qcells:P.cellsOf tq=1
 bool:P.underlying tq=some .bool
 act:ActTy P ta t8 ti tb tk e8 eb
theorem zpY {tt ti:TypeId} (hs:∃f0 f1 f2 f3 f4:Field,P.underlying tt=some (.struct #[f0,f1,f2,f3,f4])∧(f0.type=ti∧f0.offset=0)∧(f1.type=ti∧f1.offset=1)∧(f2.type=ti∧f2.offset=2)∧(f3.type=ti∧f3.offset=3)∧(f4.type=ti∧f4.offset=4))
 (hcl5:P.cellsOf tt=5) (hc1:P.cellsOf ti=1) (hi:P.underlying ti=some (.int .i64)) {fuel:Nat} {cs:List Value} {x:DataW H × List MemPlace} (h:DataW.trod enc P w base spare held fuel tt cs=some x):∃a b c d e:Int,cs=[.int .i64 a,.int .i64 b,.int .i64 c,.int .i64 d,.int .i64 e]:=by
 obtain ⟨f0,f1,f2,f3,f4,hs,⟨y0,o0⟩,⟨y1,o1⟩,⟨y2,o2⟩,⟨y3,o3⟩,y4,o4⟩:=hs
 obtain ⟨xs,n,_,_,hcl,hxl,hg⟩:=DataW.trod_struct hs h
 rw [hcl5] at hcl
 match cs,hcl,xs,hxl with
 | [c0,c1,c2,c3,c4],_,[x0,x1,x2,x3,x4],_ =>
  have g0:=hg 0 f0 rfl
  have g1:=hg 1 f1 rfl
  have g2:=hg 2 f2 rfl
  have g3:=hg 3 f3 rfl
  have g4:=hg 4 f4 rfl
  rw [y0,o0,hc1] at g0
  rw [y1,o1,hc1] at g1
  rw [y2,o2,hc1] at g2
  rw [y3,o3,hc1] at g3
  rw [y4,o4,hc1] at g4
  obtain ⟨a,e0,_,_⟩:=DataW.trod_int hi (show DataW.trod enc P w base spare held n ti [c0]=some x0 from g0)
  obtain ⟨b,e1,_,_⟩:=DataW.trod_int hi (show DataW.trod enc P w base spare held n ti [c1]=some x1 from g1)
  obtain ⟨c,e2,_,_⟩:=DataW.trod_int hi (show DataW.trod enc P w base spare held n ti [c2]=some x2 from g2)
  obtain ⟨d,e3,_,_⟩:=DataW.trod_int hi (show DataW.trod enc P w base spare held n ti [c3]=some x3 from g3)
  obtain ⟨e,e4,_,_⟩:=DataW.trod_int hi (show DataW.trod enc P w base spare held n ti [c4]=some x4 from g4)
  injection e0 with e0 _
  injection e1 with e1 _
  injection e2 with e2 _
  injection e3 with e3 _
  injection e4 with e4 _
  exact ⟨a,b,c,d,e,by rw [e0,e1,e2,e3,e4]⟩
theorem znW {e tq tt ta t8 ti tb tk e8 eb:TypeId} (T:Act6Ty P e tq tt ta t8 ti tb tk e8 eb) (hsp:∀g,spare g=true) {fuel:Nat} {cs:List Value} {x:DataW H × List MemPlace} (h:DataW.trod enc P w base spare held fuel e cs=some x):∃a:Act6,cs=a.cells∧a.Ok w w.heap.size:=by
 obtain ⟨f0,f1,f2,f3,hs,⟨y0,o0⟩,⟨y1,o1⟩,⟨y2,o2⟩,y3,o3⟩:=T.fs
 obtain ⟨xs,n,_,_,hcl,hxl,hg⟩:=DataW.trod_struct hs h
 rw [T.cells] at hcl
 match cs,hcl,xs,hxl with
 | [c0,c1,c2,c3,c4,c5,c6,c7,c8,c9,c10,c11],_,[x0,x1,x2,x3],_ =>
  have g0:=hg 0 f0 rfl
  have g1:=hg 1 f1 rfl
  have g2:=hg 2 f2 rfl
  have g3:=hg 3 f3 rfl
  rw [y0,o0,T.qcells] at g0
  rw [y1,o1,T.tcells] at g1
  rw [y2,o2,T.act.one.2.2.1] at g2
  rw [y3,o3,T.act.cells] at g3
  obtain ⟨q,e0,_⟩:=DataW.trod_bool T.bool (show DataW.trod enc P w base spare held n tq [c0]=some x0 from g0)
  obtain ⟨a,b,c,d,e,e1⟩:=zpY T.ts T.tcells T.act.one.2.1 T.act.i64 (show DataW.trod enc P w base spare held n tt [c1,c2,c3,c4,c5]=some x1 from g1)
  obtain ⟨bA,bn,bc,bl,e2,hb⟩:=zgT T.act.bytes.1 T.act.bytes.2.1 T.act.bytes.2.2 hsp (show DataW.trod enc P w base spare held n tb [c6]=some x2 from g2)
  obtain ⟨y,e3,hy⟩:=zpF T.act hsp (show DataW.trod enc P w base spare held n ta [c7,c8,c9,c10,c11]=some x3 from g3)
  injection e0 with e0 _
  injection e1 with e1 e1'
  injection e1' with e12 e1'
  injection e1' with e13 e1'
  injection e1' with e14 e1'
  injection e1' with e15 _
  injection e2 with e2 _
  unfold Act5.cells at e3
  injection e3 with e31 e3
  injection e3 with e32 e3
  injection e3 with e33 e3
  injection e3 with e34 e3
  injection e3 with e35 _
  refine ⟨{ sl:=q,ta:=a,tb:=b,tc:=c,td:=d,te:=e,bA:=bA,bn:=bn,bc:=bc,bl:=bl,act:=y },?_,⟨hb,hy⟩⟩
  rw [e0,e1,e12,e13,e14,e15,e2,e31,e32,e33,e34,e35]
  rfl
end
end
section
open Go Go.RowKit Go.ChangeShapes Go.WideShapes Go.Deep
structure Act7 where
 k:Nat:=0
 num:Int:=0
 bA:Option Addr:=none
 bn:Nat:=0
 bc:Nat:=0
 bl:List Nat:=[]
 o:Act6:={}
instance:Inhabited Act7:=⟨{}⟩
structure Act8 where
 k:Nat:=0
 x:Int:=0
 y:Int:=0
 o:Act6:={}
instance:Inhabited Act8:=⟨{}⟩
section
variable {H:Type} {enc:TypeId × Value→H} {P:Program} {w:World} {base:Nat} {spare:Nat→Bool} {held:Bool}
end
end
section
open Go Go.RowKit Go.ChangeShapes Go.WideShapes Go.Deep
structure ActL where
 k:Nat:=0
 i:Int:=0
 n:Int:=0
 x:Int:=0
 y:Int:=0
 e:Ent:={}
 o:Act6:={}
instance (x:ActL):CoeDep ActL x (Array Value):=⟨#[.int .u8 (x.k:Int),.int .i64 x.i,.int .i64 x.n,.int .i64 x.x,.int .i64 x.y,.int .u8 (x.e.k:Int),.int .i64 x.e.cl,.int .i64 x.e.sq,.int .u8 (x.e.ok:Int),.string x.e.key,.string x.e.old,.string x.e.val,.bool x.o.sl,.int .i64 x.o.ta,.int .i64 x.o.tb,.int .i64 x.o.tc,.int .i64 x.o.td,.int .i64 x.o.te,.slice x.o.bA x.o.bn x.o.bc,.int .u8 (x.o.act.kind:Int),.int .i64 x.o.act.sec,.int .i64 x.o.act.num,.slice x.o.act.bA x.o.act.bn x.o.act.bc,.slice x.o.act.kA x.o.act.kn x.o.act.kc]⟩
instance (x:ActL):CoeDep ActL x (List Value):=⟨[.int .u8 (x.k:Int),.int .i64 x.i,.int .i64 x.n,.int .i64 x.x,.int .i64 x.y,.int .u8 (x.e.k:Int),.int .i64 x.e.cl,.int .i64 x.e.sq,.int .u8 (x.e.ok:Int),.string x.e.key,.string x.e.old,.string x.e.val,.bool x.o.sl,.int .i64 x.o.ta,.int .i64 x.o.tb,.int .i64 x.o.tc,.int .i64 x.o.td,.int .i64 x.o.te,.slice x.o.bA x.o.bn x.o.bc,.int .u8 (x.o.act.kind:Int),.int .i64 x.o.act.sec,.int .i64 x.o.act.num,.slice x.o.act.bA x.o.act.bn x.o.act.bc,.slice x.o.act.kA x.o.act.kn x.o.act.kc]⟩
instance:Inhabited ActL:=⟨{}⟩
def ActL.cells (x:ActL):List Value:=[.int .u8 (x.k:Int),.int .i64 x.i,.int .i64 x.n,.int .i64 x.x,.int .i64 x.y,.int .u8 (x.e.k:Int),.int .i64 x.e.cl,.int .i64 x.e.sq,.int .u8 (x.e.ok:Int),.string x.e.key,.string x.e.old,.string x.e.val,.bool x.o.sl,.int .i64 x.o.ta,.int .i64 x.o.tb,.int .i64 x.o.tc,.int .i64 x.o.td,.int .i64 x.o.te,.slice x.o.bA x.o.bn x.o.bc,.int .u8 (x.o.act.kind:Int),.int .i64 x.o.act.sec,.int .i64 x.o.act.num,.slice x.o.act.bA x.o.act.bn x.o.act.bc,.slice x.o.act.kA x.o.act.kn x.o.act.kc]
structure ActL.Ok (x:ActL) (w:World) (B:Nat):Prop where
 lt:x.k<256
 e:x.e.Wf
 o:x.o.Ok w B
section
variable {H:Type} {enc:TypeId × Value→H} {P:Program} {w:World} {base:Nat} {spare:Nat→Bool} {held:Bool}
structure ActLTy (P:Program) (e eB eE tO ts e6 tq tt ta t8 ti tb tk e8 eb:TypeId):Prop where
 fs:∃f0 f1 f2 f3 f4 f5:Field,P.underlying e=some (.struct #[f0,f1,f2,f3,f4,f5])∧(f0.type=t8∧f0.offset=0)∧(f1.type=ti∧f1.offset=1)∧(f2.type=ti∧f2.offset=2)∧(f3.type=eB∧f3.offset=3)∧(f4.type=eE∧f4.offset=5)∧(f5.type=e6∧f5.offset=12)
 cells:P.cellsOf e=24
 bal:BalTy P eB ti
 ent:EntTy P eE t8 ti tO ts
 act:Act6Ty P e6 tq tt ta t8 ti tb tk e8 eb
theorem znT {e eB eE tO ts e6 tq tt ta t8 ti tb tk e8 eb:TypeId} (T:ActLTy P e eB eE tO ts e6 tq tt ta t8 ti tb tk e8 eb) (hsp:∀g,spare g=true) {fuel:Nat} {cs:List Value} {x:DataW H × List MemPlace} (h:DataW.trod enc P w base spare held fuel e cs=some x):∃a:ActL,cs=a.cells∧a.Ok w w.heap.size:=by
 obtain ⟨f0,f1,f2,f3,f4,f5,hs,⟨y0,o0⟩,⟨y1,o1⟩,⟨y2,o2⟩,⟨y3,o3⟩,⟨y4,o4⟩,y5,o5⟩:=T.fs
 obtain ⟨xs,n,_,_,hcl,hxl,hg⟩:=DataW.trod_struct hs h
 rw [T.cells] at hcl
 match cs,hcl,xs,hxl with
 | [c0,c1,c2,c3,c4,c5,c6,c7,c8,c9,c10,c11,c12,c13,c14,c15,c16,c17,c18,c19,c20,c21,c22,c23],_,[x0,x1,x2,x3,x4,x5],_ =>
  have g0:=hg 0 f0 rfl
  have g1:=hg 1 f1 rfl
  have g2:=hg 2 f2 rfl
  have g3:=hg 3 f3 rfl
  have g4:=hg 4 f4 rfl
  have g5:=hg 5 f5 rfl
  rw [y0,o0,T.act.act.one.1] at g0
  rw [y1,o1,T.act.act.one.2.1] at g1
  rw [y2,o2,T.act.act.one.2.1] at g2
  rw [y3,o3,T.bal.cells] at g3
  rw [y4,o4,T.ent.cells] at g4
  rw [y5,o5,T.act.cells] at g5
  obtain ⟨q,e0,_,hq⟩:=DataW.trod_int T.act.act.u8 (show DataW.trod enc P w base spare held n t8 [c0]=some x0 from g0)
  obtain ⟨i,e1,_,_⟩:=DataW.trod_int T.act.act.i64 (show DataW.trod enc P w base spare held n ti [c1]=some x1 from g1)
  obtain ⟨z,e2,_,_⟩:=DataW.trod_int T.act.act.i64 (show DataW.trod enc P w base spare held n ti [c2]=some x2 from g2)
  obtain ⟨a,b,e3,_⟩:=zrn T.bal (show DataW.trod enc P w base spare held n eB [c3,c4]=some x3 from g3)
  obtain ⟨t,e4,ht⟩:=zru T.ent (show DataW.trod enc P w base spare held n eE [c5,c6,c7,c8,c9,c10,c11]=some x4 from g4)
  obtain ⟨y,e5,hy⟩:=znW T.act hsp (show DataW.trod enc P w base spare held n e6 [c12,c13,c14,c15,c16,c17,c18,c19,c20,c21,c22,c23]=some x5 from g5)
  have hk8:=bounds_u8 hq
  injection e0 with e0 _
  injection e1 with e1 _
  injection e2 with e2 _
  injection e3 with e3 e3'
  injection e3' with e3' _
  refine ⟨{ k:=q.toNat,i:=i,n:=z,x:=a,y:=b,e:=t,o:=y },?_,⟨by show q.toNat<256;omega,ht,hy⟩⟩
  have hcs:[c0,c1,c2,c3,c4,c5,c6,c7,c8,c9,c10,c11,c12,c13,c14,c15,c16,c17,c18,c19,c20,c21,c22,c23]=[c0,c1,c2,c3,c4]++[c5,c6,c7,c8,c9,c10,c11]++[c12,c13,c14,c15,c16,c17,c18,c19,c20,c21,c22,c23]:=rfl
  rw [hcs,e0,e1,e2,e3,e3',e4,e5]
  show _=[Value.int .u8 ((q.toNat:Nat):Int),_,_,_,_]++t.cells++y.cells
  rw [Int.toNat_of_nonneg hk8.1]
end
end
section
open Go Go.RowKit Go.ChangeShapes Go.WideShapes
theorem lact5_ty:ActTy Tryz.prog 48 5 3 45 46 5 4 :=
 ⟨⟨_,_,_,_,_,Tryz.underlying48,⟨rfl,rfl⟩,⟨rfl,rfl⟩,⟨rfl,rfl⟩,⟨rfl,rfl⟩,rfl,rfl⟩,by kernel_rfl,⟨by kernel_rfl,by kernel_rfl,by kernel_rfl,by kernel_rfl,by kernel_rfl⟩,Tryz.underlying5,Tryz.underlying3,⟨Tryz.underlying45,Tryz.underlying5,by kernel_rfl⟩,⟨Tryz.underlying46,Tryz.underlying4⟩⟩
theorem lact6_ty:Act6Ty Tryz.prog 50 4 44 48 5 3 45 46 5 4 :=
 ⟨⟨_,_,_,_,Tryz.underlying50,⟨rfl,rfl⟩,⟨rfl,rfl⟩,⟨rfl,rfl⟩,rfl,rfl⟩,⟨_,_,_,_,_,Tryz.underlying44,⟨rfl,rfl⟩,⟨rfl,rfl⟩,⟨rfl,rfl⟩,⟨rfl,rfl⟩,rfl,rfl⟩,by kernel_rfl,by kernel_rfl,by kernel_rfl,Tryz.underlying4,lact5_ty⟩
theorem lbal_ty:BalTy Tryz.prog 38 3:=⟨⟨_,_,Tryz.underlying38,⟨rfl,rfl⟩,rfl,rfl⟩,by kernel_rfl,by kernel_rfl,Tryz.underlying3⟩
theorem lactL_ty:ActLTy Tryz.prog 52 38 42 40 9 50 4 44 48 5 3 45 46 5 4 :=
 ⟨⟨_,_,_,_,_,_,Tryz.underlying52,⟨rfl,rfl⟩,⟨rfl,rfl⟩,⟨rfl,rfl⟩,⟨rfl,rfl⟩,⟨rfl,rfl⟩,rfl,rfl⟩,by kernel_rfl,lbal_ty,zuv,lact6_ty⟩
theorem open_t22 {H:Type} {enc:TypeId × Value→H} {w:World} {base:Nat} {held:Bool} {r:Reach} {b0:Nat} {v:Value} {d:DataW H} {p:List MemPlace}
 (hv:Value.okWide Tryz.prog w r b0 22 v) (h:DataW.Trod enc Tryz.prog w base (fun _=>true) held 22 v d p):∃(A:Option Addr) (n c:Nat) (l:List ActL),v=.slice A n c∧Ls ActL.cells 24 w w.heap.size A n c l∧∀a∈l,a.Ok w w.heap.size :=
 zoL (cells:=ActL.cells) (N:=24) (Ok:=fun a=>a.Ok w w.heap.size) (fun _=>rfl) (by omega) Tryz.underlying22 (by kernel_rfl) (fun h=>znT lactL_ty (fun _=>rfl) h) hv h
end
structure RHead (w:World) (d gr cr gm cm gl cl:Nat) (pv:Value) (m:DM):Prop where
 head:w.heap[d]?=some (.cells #[.slice (some ⟨gr,0,none⟩) m.size cr,.slice (some ⟨gm,0,none⟩) m.size cm,.slice (some ⟨gl,0,none⟩) m.size cl,pv,.bool m.down,.bool m.dead,.int .i64 m.power] 65 (0,0))
 n1:1≤m.size∧m.size≤1024
section
variable {w w':World} {d gr cr gm cm gl cl:Nat} {pv:Value} {m:DM} {F:Nat→Prop}
theorem RHead.mod (h:RHead w d gr cr gm cm gl cl pv m) (k:Mod F w w') (hd:¬F d):RHead w' d gr cr gm cm gl cl pv m:=⟨zah h.head k hd,h.n1⟩
theorem RHead.cells (h:RHead w d gr cr gm cm gl cl pv m) :
 ((CW.mk w d [.slice (some ⟨gr,0,none⟩) m.size cr,.slice (some ⟨gm,0,none⟩) m.size cm,.slice (some ⟨gl,0,none⟩) m.size cl,pv,.bool m.down,.bool m.dead,m.power]:Prop)) ∧
  ∀i,w.frozen? (aD d i)=false :=
 ⟨⟨cell_of_row w d 0 _ _ _ h.head,cell_of_row w d 1 _ _ _ h.head,cell_of_row w d 2 _ _ _ h.head,cell_of_row w d 3 _ _ _ h.head,cell_of_row w d 4 _ _ _ h.head,cell_of_row w d 5 _ _ _ h.head,cell_of_row w d 6 _ _ _ h.head⟩,fun i=>frozen_of_row w d i _ _ h.head⟩
theorem zel (h:RHead w d gr cr gm cm gl cl pv m) (s:Int) :
 (cQ 106 #[aD d 0,.int .i64 s] w (.bool (m.has s)):Prop):=by
 obtain ⟨⟨c0,_⟩,_⟩:=h.cells
 have HE:Hid (m.has s=(decide (0≤s) && decide (s<(m.size:Int)))):=qj (by unfold DM.has;rfl)
 clear h
 generalize m.size=n at *
 by_cases h0:0≤s
 ·by_cases h1:s<(n:Int)
  ·go_enter Tryz.func106,Tryz.ntmps106
   go_wp2_with fail
   go_ret
   exact ⟨by rw [HE.out];simp [h0,h1],rfl⟩
  ·go_enter Tryz.func106,Tryz.ntmps106
   go_wp2_with fail
   go_ret
   exact ⟨by rw [HE.out];simp [h0,h1],rfl⟩
 ·go_enter Tryz.func106,Tryz.ntmps106
  go_wp2_with fail
  go_ret
  exact ⟨by rw [HE.out,decide_eq_false (show ¬0≤s by omega)];rfl,rfl⟩
def zaF (m:DM):DM:=if m.power=0 then { m with dead:=true } else { m with power:=lessP m.power }
theorem zoy (h:RHead w d gr cr gm cm gl cl pv m) (hp:-1≤m.power∧m.power≤9223372036854775807) :
 Calls Tryz.prog 107 #[aD d 0] w fun e w'=>e=.returned (.bool (decide (m.power≠0)))∧RHead w' d gr cr gm cm gl cl pv (zaF m)∧Mod (fun i=>i=d) w w':=by
 have H:=qj h
 obtain ⟨⟨_,_,_,_,_,c5,c6⟩,hf⟩:=h.cells
 have f5:=hf 5
 have f6:=hf 6
 obtain ⟨p,hpp⟩:∃p,m.power=p:=⟨_,rfl⟩
 have HP:=qj hpp
 rw [hpp] at c6 hp
 clear h hf hpp
 generalize m.dead=dd at c5
 by_cases h0:p=0
 ·subst h0
  go_enter Tryz.func107,Tryz.ntmps107
  go_wp2_with fail
  go_ret
  have e:zaF m={ m with dead:=true }:=if_pos HP.out
  rw [e]
  exact ⟨by rw [HP.out];rfl,⟨zae 5 H.out.head _ rfl,H.out.n1⟩,Mod.setCell (F:=fun i=>i=d) (Mod.refl _ _) (.inl rfl) _⟩
 ·have g0:(p == 0)=false:=by simpa using h0
  have e:zaF m={ m with power:=lessP p }:=by unfold zaF;rw [if_neg (by rw [HP.out];exact h0),HP.out]
  by_cases h1:0<p
  ·have hw:IntKind.i64.wrap (p-1)=p-1:=IntWalk.i64_in _ (by omega)
   have HE:=qj e
   have HL:Hid (lessP p=p-1):=qj (if_pos h1)
   have H0:=qj h0
   clear e
   go_enter Tryz.func107,Tryz.ntmps107
   go_wp2_with fail
   go_ret
   rw [HE.out,HL.out]
   exact ⟨by rw [HP.out];first | (rw [decide_eq_true (show p≠0 from H0.out)];rfl) | (rw [decide_eq_false H0.out];rfl),⟨zae 6 H.out.head _ rfl,H.out.n1⟩,Mod.setCell (F:=fun i=>i=d) (Mod.refl _ _) (.inl rfl) _⟩
  ·have HE:=qj e
   have HL:Hid (lessP p=p):=qj (if_neg h1)
   have H0:=qj h0
   clear e
   go_enter Tryz.func107,Tryz.ntmps107
   go_wp2_with fail
   go_ret
   rw [HE.out,HL.out]
   refine ⟨by rw [HP.out];first | (rw [decide_eq_true (show p≠0 from H0.out)];rfl) | (rw [decide_eq_false H0.out];rfl),⟨?_,H.out.n1⟩,Mod.refl _ _⟩
   have:=H.out.head
   rw [HP.out] at this
   exact this
theorem zoV (h:RHead w d gr cr gm cm gl cl pv m) :
 Calls Tryz.prog 101 #[aD d 0] w fun e w'=>e=.returned m.start.1∧RHead w' d gr cr gm cm gl cl pv m.start.2∧Mod (fun i=>i=d) w w':=by
 have H:=qj h
 obtain ⟨⟨_,_,_,_,c4,c5,c6⟩,hf⟩:=h.cells
 have f4:=hf 4
 have f5:=hf 5
 have f6:=hf 6
 clear h hf
 by_cases hd:m.down=true
 ·have e:m.start=(0,{ m with down:=false,dead:=false,power:=-1 }):=by unfold DM.start;rw [if_neg (by rw [hd];simp)]
  have HE:=qj e
  rw [hd] at c4
  clear e hd
  generalize m.dead=dd at c5
  generalize m.power=pp at c6
  go_enter Tryz.func101,Tryz.ntmps101
  go_wp2_with fail
  go_ret
  rw [HE.out]
  exact ⟨rfl,⟨zae 6 (zae 5 (zae 4 H.out.head _ rfl) _ rfl) _ rfl,H.out.n1⟩,((Mod.setCell (F:=fun i=>i=d) (Mod.refl _ _) (.inl rfl) _).setCell (.inl rfl) _).setCell (.inl rfl) _⟩
 ·have hd':m.down=false:=by simpa using hd
  have e:m.start=(2,m):=by unfold DM.start;rw [if_pos hd']
  have HE:=qj e
  rw [hd'] at c4
  clear e hd hd'
  go_enter Tryz.func101,Tryz.ntmps101
  go_wp2_with fail
  go_ret
  rw [HE.out]
  exact ⟨rfl,H.out,Mod.refl _ _⟩
theorem zoI (h:RHead w d gr cr gm cm gl cl pv m) (n:Int) :
 Calls Tryz.prog 105 #[aD d 0,.int .i64 n] w fun e w'=>e=.returned (.int .i64 (m.setPower n).1)∧RHead w' d gr cr gm cm gl cl pv (m.setPower n).2∧Mod (fun i=>i=d) w w':=by
 have H:=qj h
 obtain ⟨⟨_,_,_,_,c4,c5,c6⟩,hf⟩:=h.cells
 have f6:=hf 6
 clear h hf
 by_cases hu:m.up=true
 ·have hd:m.down=false∧m.dead=false:=by
   unfold DM.up at hu
   cases h1:m.down <;> cases h2:m.dead <;> simp_all
  rw [hd.1] at c4
  rw [hd.2] at c5
  have HU:=qj hu
  clear hd hu
  by_cases hn:n<0
  ·have e:m.setPower n=(2,m):=by unfold DM.setPower;rw [if_neg (by rw [HU.out];simp),if_pos hn]
   have HE:=qj e
   clear e
   go_enter Tryz.func105,Tryz.ntmps105
   go_wp2_with fail
   go_ret
   rw [HE.out]
   exact ⟨rfl,H.out,Mod.refl _ _⟩
  ·have e:m.setPower n=(0,{ m with power:=n }):=by unfold DM.setPower;rw [if_neg (by rw [HU.out];simp),if_neg hn]
   have HE:=qj e
   clear e
   generalize m.power=pp at c6
   go_enter Tryz.func105,Tryz.ntmps105
   go_wp2_with fail
   go_ret
   rw [HE.out]
   exact ⟨rfl,⟨zae 6 H.out.head _ rfl,H.out.n1⟩,Mod.setCell (F:=fun i=>i=d) (Mod.refl _ _) (.inl rfl) _⟩
 ·have e:m.setPower n=(5,m):=by unfold DM.setPower;rw [if_pos (by simpa using hu)]
  have HE:=qj e
  have hd:m.down=true∨(m.down=false∧m.dead=true):=by
   unfold DM.up at hu
   cases h1:m.down <;> cases h2:m.dead <;> simp_all
  clear e hu
  rcases hd with hd | hd
  ·rw [hd] at c4
   clear hd
   go_enter Tryz.func105,Tryz.ntmps105
   go_wp2_with fail
   go_ret
   rw [HE.out]
   exact ⟨rfl,H.out,Mod.refl _ _⟩
  ·rw [hd.1] at c4
   rw [hd.2] at c5
   clear hd
   go_enter Tryz.func105,Tryz.ntmps105
   go_wp2_with fail
   go_ret
   rw [HE.out]
   exact ⟨rfl,H.out,Mod.refl _ _⟩
end
structure Nm where
 gr:Nat
 gm:Nat
 gl:Nat
 cr:Nat
 cm:Nat
 cl:Nat
 pv:Value
 RB:List (Nat × Nat)
 MB:List (Nat × Nat)
 WB:List (Nat × Nat)
def slV (x:Nat × Nat):Value:=.slice (some ⟨x.1,0,none⟩) 64 x.2
def zdN:List (Nat × List Nat)→List (Nat × Nat)→List Value
 | x :: l,y :: r=>.int .i64 (x.1:Int) :: slV y :: zdN l r
 | _,_=>[]
def Byt (w:World) (x:Nat × Nat) (b:List Nat):Prop:=w.ownsRow 0 5 1 (slV x) 64 (vb b)
structure RDq (w:World) (d:Nat) (p:Nat→Nat) (q:Nm) (m:DM):Prop where
 ok:m.Ok
 head:RHead w d q.gr q.cr q.gm q.cm q.gl q.cl q.pv m
 rr:w.ownsRow 0 45 1 (.slice (some ⟨q.gr,0,none⟩) m.size q.cr) m.size (q.RB.map slV)
 rm:w.ownsRow 0 45 1 (.slice (some ⟨q.gm,0,none⟩) m.size q.cm) m.size (q.MB.map slV)
 rl:w.ownsRow 0 4 1 (.slice (some ⟨q.gl,0,none⟩) m.size q.cl) m.size (m.lost.map .bool)
 rb:∀j x,q.RB[j]?=some x→p x.1=7+j∧Byt w x (m.rest.getD j [])
 mb:∀j x,q.MB[j]?=some x→p x.1=6∧Byt w x (m.meant.getD j [])
 wl:q.WB.length=m.waits.length
 wb:∀j x,q.WB[j]?=some x→p x.1=6∧Byt w x (m.waits.getD j (0,[])).2
 pen:w.ownsRow 0 162 2 q.pv m.waits.length (zdN m.waits q.WB)
 pd:p d=1
 pr:p q.gr=2
 pm:p q.gm=3
 pl:p q.gl=4
 pp:∀k,q.pv.ownBlock=some k→p k=5
 few:m.power≤9223372036854775807
def RD (w:World) (d:Nat) (p:Nat→Nat) (m:DM):Prop:=(∃q,RDq w d p q m)∧∀k,p k≠0→k<w.heap.size
def ROut (d:Nat) (p:Nat→Nat) (w:World) (m':DM) (w':World):Prop:=∃p',RD w' d p' m'∧Mod (fun k=>p k≠0) w w'∧∀k,p' k≠0→p k≠0∨w.heap.size≤k
section
variable {w w':World} {d:Nat} {p:Nat→Nat} {q:Nm} {m:DM} {F:Nat→Prop}
theorem Byt.mod {x:Nat × Nat} {b:List Nat} (h:Byt w x b) (k:Mod F w w') (hx:¬F x.1):Byt w' x b:=zas h k fun i hi=>by
 injection hi with hi
 subst hi
 exact hx
theorem Byt.lt {x:Nat × Nat} {b:List Nat} (h:Byt w x b):x.1<w.heap.size:=(World.ownsRow.lt h x.1 rfl).2
theorem Byt.by {x:Nat × Nat} {b:List Nat} (h:Byt w x b) (hb:∀y∈b,y<256):By w (some ⟨x.1,0,none⟩) 64 x.2 b:=Bs.of_own h hb
theorem RDq.mod (h:RDq w d p q m) (k:Mod F w w') (hF:∀i,p i≠0→¬F i):RDq w' d p q m :=
 ⟨h.ok,h.head.mod k (hF d (by rw [h.pd];omega)),zas h.rr k (fun i hi=>by injection hi with hi;subst hi;exact hF _ (by rw [h.pr];omega)),zas h.rm k (fun i hi=>by injection hi with hi;subst hi;exact hF _ (by rw [h.pm];omega)),zas h.rl k (fun i hi=>by injection hi with hi;subst hi;exact hF _ (by rw [h.pl];omega)),
  fun j x hx=>⟨(h.rb j x hx).1,(h.rb j x hx).2.mod k (hF _ (by rw [(h.rb j x hx).1];omega))⟩,fun j x hx=>⟨(h.mb j x hx).1,(h.mb j x hx).2.mod k (hF _ (by rw [(h.mb j x hx).1];omega))⟩,h.wl,fun j x hx=>⟨(h.wb j x hx).1,(h.wb j x hx).2.mod k (hF _ (by rw [(h.wb j x hx).1];omega))⟩,
  zas h.pen k (fun i hi=>hF i (by rw [h.pp i hi];omega)),h.pd,h.pr,h.pm,h.pl,h.pp,h.few⟩
theorem RDq.ext (h:RDq w d p q m) (k:Ext w w'):RDq w' d p q m:=h.mod (F:=fun _=>False) (Mod.of_ext k) fun _ _ h=>h
theorem RDq.lts (h:RDq w d p q m):d<w.heap.size∧q.gr<w.heap.size∧q.gm<w.heap.size∧q.gl<w.heap.size :=
 ⟨(Array.getElem?_eq_some_iff.1 h.head.head).1,(h.rr.lt q.gr rfl).2,(h.rm.lt q.gm rfl).2,(h.rl.lt q.gl rfl).2⟩
theorem RDq.recast (h:RDq w d p q m) {p':Nat→Nat} (hp:∀k,k<w.heap.size→p' k=p k):RDq w d p' q m :=
 ⟨h.ok,h.head,h.rr,h.rm,h.rl,fun j x hx=>⟨(hp _ (h.rb j x hx).2.lt).trans (h.rb j x hx).1,(h.rb j x hx).2⟩,fun j x hx=>⟨(hp _ (h.mb j x hx).2.lt).trans (h.mb j x hx).1,(h.mb j x hx).2⟩,h.wl,fun j x hx=>⟨(hp _ (h.wb j x hx).2.lt).trans (h.wb j x hx).1,(h.wb j x hx).2⟩,h.pen,
  (hp _ h.lts.1).trans h.pd,(hp _ h.lts.2.1).trans h.pr,(hp _ h.lts.2.2.1).trans h.pm,(hp _ h.lts.2.2.2).trans h.pl,fun k hk=>(hp _ (h.pen.lt k hk).2).trans (h.pp k hk),h.few⟩
theorem zaQ (w:World) (g k:Nat) (v:Value):Mod (fun i=>i=g) w (w.setCell (aD g k) v):=Mod.setCell (F:=fun i=>i=g) (Mod.refl _ _) (.inl rfl) v
theorem zdO {α:Type} (f:α→Value) (l:List α) (j:Nat) (x:α):(l.set j x).map f=(l.map f).set j (f x):=by rw [List.map_set]
theorem zdp {α:Type} {l:List α} {i j:Nat} {x d:α} (hi:i<l.length):(l.set i x).getD j d=if i=j then x else l.getD j d:=zbR hi
theorem znv {α:Type} {l:List α} {i j:Nat} {x y:α} (h:(l.set i x)[j]?=some y):(i=j∧y=x)∨(i≠j∧l[j]?=some y):=by
 rw [List.getElem?_set] at h
 split at h
 ·split at h
  ·injection h with h
   exact .inl ⟨by assumption,h.symm⟩
  ·cases h
 ·exact .inr ⟨by assumption,h⟩
theorem RDq.setRest (h:RDq w d p q m) {j:Nat} {x:Nat × Nat} {b:List Nat} (hj:j<m.size) (hb:Sect b) (hx:Byt w x b) (hp:p x.1=7+j):RDq (w.setCell (aD q.gr j) (slV x)) d p { q with RB:=q.RB.set j x } { m with rest:=m.rest.set j b }:=by
 have k:=zaQ w q.gr j (slV x)
 have hrl:q.RB.length=m.size:=by have:=h.rr.1;rw [List.length_map] at this;omega
 have hs:({ m with rest:=m.rest.set j b }:DM).size=m.size:=by simp [DM.size]
 have ne:∀i r,p i=r→r≠2→¬i=q.gr:=fun i r hi hr e=>by rw [e,h.pr] at hi;omega
 have own:=fun {e s n:Nat} {v:Value} {xs:List Value} (ho:w.ownsRow 0 e s v n xs) (r:Nat) (hr:r≠2) (hv:∀i,v.ownBlock=some i→p i=r)=>zas ho k fun i hi=>ne i r (hv i hi) hr
 refine ⟨⟨by rw [hs];exact h.ok.meant,by rw [hs];exact h.ok.lost,zby h.ok.rests hb,h.ok.means,by rw [hs];exact h.ok.waits,h.ok.power⟩,?_,?_,?_,?_,?_,?_,h.wl,?_,own h.pen 5 (by omega) h.pp,h.pd,h.pr,h.pm,h.pl,h.pp,h.few⟩
 ·have:=h.head.mod k (ne d 1 h.pd (by omega))
  exact ⟨by rw [hs];exact this.head,by rw [hs];exact this.n1⟩
 ·rw [hs]
  have:=(h.rr.stored j (slV x)).1
  rwa [←zdO] at this
 ·rw [hs];exact own h.rm 3 (by omega) fun i hi=>by injection hi with hi;subst hi;exact h.pm
 ·rw [hs];exact own h.rl 4 (by omega) fun i hi=>by injection hi with hi;subst hi;exact h.pl
 ·intro i y hy
  rcases znv hy with ⟨rfl,rfl⟩ | ⟨hne,hy⟩
  ·refine ⟨hp,?_⟩
   show Byt _ _ ((m.rest.set j b).getD j [])
   rw [zdp (by exact hj),if_pos rfl]
   exact hx.mod k (ne _ _ hp (by omega))
  ·refine ⟨(h.rb i y hy).1,?_⟩
   show Byt _ _ ((m.rest.set j b).getD i [])
   rw [zdp (by exact hj),if_neg hne]
   exact (h.rb i y hy).2.mod k (ne _ _ (h.rb i y hy).1 (by omega))
 ·intro i y hy
  exact ⟨(h.mb i y hy).1,(h.mb i y hy).2.mod k (ne _ _ (h.mb i y hy).1 (by omega))⟩
 ·intro i y hy
  exact ⟨(h.wb i y hy).1,(h.wb i y hy).2.mod k (ne _ _ (h.wb i y hy).1 (by omega))⟩
theorem RDq.setMeant (h:RDq w d p q m) {j:Nat} {x:Nat × Nat} {b:List Nat} (hj:j<m.size) (hb:Sect b) (hx:Byt w x b) (hp:p x.1=6):RDq (w.setCell (aD q.gm j) (slV x)) d p { q with MB:=q.MB.set j x } { m with meant:=m.meant.set j b }:=by
 have k:=zaQ w q.gm j (slV x)
 have ne:∀i r,p i=r→r≠3→¬i=q.gm:=fun i r hi hr e=>by rw [e,h.pm] at hi;omega
 have own:=fun {e s n:Nat} {v:Value} {xs:List Value} (ho:w.ownsRow 0 e s v n xs) (r:Nat) (hr:r≠3) (hv:∀i,v.ownBlock=some i→p i=r)=>zas ho k fun i hi=>ne i r (hv i hi) hr
 refine ⟨⟨by show (m.meant.set j b).length=_;rw [List.length_set];exact h.ok.meant,h.ok.lost,h.ok.rests,zby h.ok.means hb,h.ok.waits,h.ok.power⟩,?_,?_,?_,?_,?_,?_,h.wl,?_,own h.pen 5 (by omega) h.pp,h.pd,h.pr,h.pm,h.pl,h.pp,h.few⟩
 ·have:=h.head.mod k (ne d 1 h.pd (by omega))
  exact ⟨this.head,this.n1⟩
 ·exact own h.rr 2 (by omega) fun i hi=>by injection hi with hi;subst hi;exact h.pr
 ·have:=(h.rm.stored j (slV x)).1
  rwa [←zdO] at this
 ·exact own h.rl 4 (by omega) fun i hi=>by injection hi with hi;subst hi;exact h.pl
 ·intro i y hy
  exact ⟨(h.rb i y hy).1,(h.rb i y hy).2.mod k (ne _ _ (h.rb i y hy).1 (by omega))⟩
 ·intro i y hy
  rcases znv hy with ⟨rfl,rfl⟩ | ⟨hne,hy⟩
  ·refine ⟨hp,?_⟩
   show Byt _ _ ((m.meant.set j b).getD j [])
   rw [zdp (by rw [h.ok.meant];exact hj),if_pos rfl]
   exact hx.mod k (ne _ _ hp (by omega))
  ·refine ⟨(h.mb i y hy).1,?_⟩
   show Byt _ _ ((m.meant.set j b).getD i [])
   rw [zdp (by rw [h.ok.meant];exact hj),if_neg hne]
   exact (h.mb i y hy).2.mod k (ne _ _ (h.mb i y hy).1 (by omega))
 ·intro i y hy
  exact ⟨(h.wb i y hy).1,(h.wb i y hy).2.mod k (ne _ _ (h.wb i y hy).1 (by omega))⟩
theorem RDq.setLost (h:RDq w d p q m) (j:Nat) (v:Bool):RDq (w.setCell (aD q.gl j) (.bool v)) d p q { m with lost:=m.lost.set j v }:=by
 have k:=zaQ w q.gl j (.bool v)
 have ne:∀i r,p i=r→r≠4→¬i=q.gl:=fun i r hi hr e=>by rw [e,h.pl] at hi;omega
 have own:=fun {e s n:Nat} {v:Value} {xs:List Value} (ho:w.ownsRow 0 e s v n xs) (r:Nat) (hr:r≠4) (hv:∀i,v.ownBlock=some i→p i=r)=>zas ho k fun i hi=>ne i r (hv i hi) hr
 refine ⟨⟨h.ok.meant,by show (m.lost.set j v).length=_;rw [List.length_set];exact h.ok.lost,h.ok.rests,h.ok.means,h.ok.waits,h.ok.power⟩,?_,?_,?_,?_,?_,?_,h.wl,?_,own h.pen 5 (by omega) h.pp,h.pd,h.pr,h.pm,h.pl,h.pp,h.few⟩
 ·have:=h.head.mod k (ne d 1 h.pd (by omega))
  exact ⟨this.head,this.n1⟩
 ·exact own h.rr 2 (by omega) fun i hi=>by injection hi with hi;subst hi;exact h.pr
 ·exact own h.rm 3 (by omega) fun i hi=>by injection hi with hi;subst hi;exact h.pm
 ·have:=(h.rl.stored j (.bool v)).1
  rwa [←zdO] at this
 ·intro i y hy
  exact ⟨(h.rb i y hy).1,(h.rb i y hy).2.mod k (ne _ _ (h.rb i y hy).1 (by omega))⟩
 ·intro i y hy
  exact ⟨(h.mb i y hy).1,(h.mb i y hy).2.mod k (ne _ _ (h.mb i y hy).1 (by omega))⟩
 ·intro i y hy
  exact ⟨(h.wb i y hy).1,(h.wb i y hy).2.mod k (ne _ _ (h.wb i y hy).1 (by omega))⟩
theorem RDq.setHead (h:RDq w d p q m) {m':DM} (k:Mod (fun i=>i=d) w w') (hd:RHead w' d q.gr q.cr q.gm q.cm q.gl q.cl q.pv m') (h1:m'.rest=m.rest) (h2:m'.meant=m.meant) (h3:m'.lost=m.lost) (h4:m'.waits=m.waits) (h5:-1≤m'.power∧m'.power≤9223372036854775807):RDq w' d p q m':=by
 have hs:m'.size=m.size:=by unfold DM.size;rw [h1]
 have ne:∀i r,p i=r→r≠1→¬i=d:=fun i r hi hr e=>by rw [e,h.pd] at hi;omega
 have own:=fun {e s n:Nat} {v:Value} {xs:List Value} (ho:w.ownsRow 0 e s v n xs) (r:Nat) (hr:r≠1) (hv:∀i,v.ownBlock=some i→p i=r)=>zas ho k fun i hi=>ne i r (hv i hi) hr
 refine ⟨⟨by rw [h2,hs];exact h.ok.meant,by rw [h3,hs];exact h.ok.lost,by rw [h1];exact h.ok.rests,by rw [h2];exact h.ok.means,by rw [h4,hs];exact h.ok.waits,h5.1⟩,hd,?_,?_,?_,?_,?_,by rw [h4];exact h.wl,?_,by rw [h4];exact own h.pen 5 (by omega) h.pp,h.pd,h.pr,h.pm,h.pl,h.pp,h5.2⟩
 ·rw [hs];exact own h.rr 2 (by omega) fun i hi=>by injection hi with hi;subst hi;exact h.pr
 ·rw [hs];exact own h.rm 3 (by omega) fun i hi=>by injection hi with hi;subst hi;exact h.pm
 ·rw [hs,h3];exact own h.rl 4 (by omega) fun i hi=>by injection hi with hi;subst hi;exact h.pl
 ·intro i y hy
  rw [h1]
  exact ⟨(h.rb i y hy).1,(h.rb i y hy).2.mod k (ne _ _ (h.rb i y hy).1 (by omega))⟩
 ·intro i y hy
  rw [h2]
  exact ⟨(h.mb i y hy).1,(h.mb i y hy).2.mod k (ne _ _ (h.mb i y hy).1 (by omega))⟩
 ·intro i y hy
  rw [h4]
  exact ⟨(h.wb i y hy).1,(h.wb i y hy).2.mod k (ne _ _ (h.wb i y hy).1 (by omega))⟩
end
theorem cell_far {w:World} {g h i j:Nat} {v u:Value} (hne:h≠g) (hc:w.cell? (aD h i)=some u):(w.setCell (aD g j) v).cell? (aD h i)=some u:=by
 rw [World.cell?_setCell_far _ _ _ _ (by simpa using fun e=>hne e.symm)]
 exact hc
theorem zls {u w':World} {a b i j k:Nat} {x y z:Value} (e:Hid (Ext u w')) (h:Hid (u.cell? (aD a i)=some x∧u.cell? (aD b j)=some y∧u.cell? (aD b k)=some z)):w'.cell? (aD a i)=some x∧w'.cell? (aD b j)=some y∧w'.cell? (aD b k)=some z :=
 ⟨(Below.cell e.out (p:=⟨a,i,none⟩) (World.block_lt_of_cell? u _ h.out.1)).trans h.out.1,(Below.cell e.out (p:=⟨b,j,none⟩) (World.block_lt_of_cell? u _ h.out.2.1)).trans h.out.2.1,(Below.cell e.out (p:=⟨b,k,none⟩) (World.block_lt_of_cell? u _ h.out.2.2)).trans h.out.2.2⟩
theorem ztQ {u w':World} {a b i j k g s:Nat} {x y z v:Value} (e:Hid (Ext u w')) (hg:Hid (a≠g∧b≠g)) (h:Hid (u.cell? (aD a i)=some x∧u.cell? (aD b j)=some y∧u.cell? (aD b k)=some z)) :
 (w'.setCell (aD g s) v).cell? (aD a i)=some x∧(w'.setCell (aD g s) v).cell? (aD b j)=some y∧(w'.setCell (aD g s) v).cell? (aD b k)=some z :=
 ⟨cell_far hg.out.1 (zls e h).1,cell_far hg.out.2 (zls e h).2.1,cell_far hg.out.2 (zls e h).2.2⟩
theorem zey {w w':World} {A:Option Addr} {c:Nat} {b:List Nat} (h:w'.ownsRow w.heap.size 5 1 (.slice A 64 c) 64 (vb b)):∃g,A=some ⟨g,0,none⟩∧w.heap.size≤g∧g<w'.heap.size∧Byt w' (g,c) b:=by
 rcases h.2 with ⟨_,h0⟩ | ⟨g,cap,cur,hv,hb,hg,rest⟩
 ·cases h0
 ·injection hv with e1 _ e3
  subst e1;subst e3
  exact ⟨g,rfl,hb,(Array.getElem?_eq_some_iff.1 hg).1,h.1,.inr ⟨g,c,cur,rfl,Nat.zero_le _,hg,rest⟩⟩
theorem RDq.restAt {w:World} {d:Nat} {p:Nat→Nat} {q:Nm} {m:DM} (h:RDq w d p q m) {s:Nat} (hs:s<m.size):∃x,q.RB[s]?=some x∧w.cell? (aD q.gr s)=some (slV x)∧w.frozen? (aD q.gr s)=false∧q.gr<w.heap.size:=by
 have hl:q.RB.length=m.size:=by have:=h.rr.1;rw [List.length_map] at this;omega
 obtain ⟨x,hx⟩:∃x,q.RB[s]?=some x:=⟨_,List.getElem?_eq_getElem (by omega)⟩
 exact ⟨x,hx,by rw [h.rr.cellAt s (by omega),List.getElem?_map,hx];rfl,h.rr.frozenAt s,h.lts.2.1⟩
theorem RDq.meantAt {w:World} {d:Nat} {p:Nat→Nat} {q:Nm} {m:DM} (h:RDq w d p q m) {s:Nat} (hs:s<m.size):∃x,q.MB[s]?=some x∧w.cell? (aD q.gm s)=some (slV x)∧w.frozen? (aD q.gm s)=false∧q.gm<w.heap.size:=by
 have hl:q.MB.length=m.size:=by have:=h.rm.1;rw [List.length_map] at this;omega
 obtain ⟨x,hx⟩:∃x,q.MB[s]?=some x:=⟨_,List.getElem?_eq_getElem (by omega)⟩
 exact ⟨x,hx,by rw [h.rm.cellAt s (by omega),List.getElem?_map,hx];rfl,h.rm.frozenAt s,h.lts.2.2.1⟩
theorem RDq.lostAt {w:World} {d:Nat} {p:Nat→Nat} {q:Nm} {m:DM} (h:RDq w d p q m) {s:Nat} (hs:s<m.size):w.cell? (aD q.gl s)=some (.bool (m.lost.getD s false))∧w.frozen? (aD q.gl s)=false∧q.gl<w.heap.size:=by
 have hl:=h.ok.lost
 refine ⟨?_,h.rl.frozenAt s,h.lts.2.2.2⟩
 rw [h.rl.cellAt s (by omega),List.getElem?_map,List.getElem?_eq_getElem (by omega),List.getD_eq_getElem?_getD,List.getElem?_eq_getElem (by omega)]
 rfl
def part (p:Nat→Nat) (b r:Nat):Nat→Nat:=fun k=>if k=b then r else p k
theorem zbI (p:Nat→Nat) (b r:Nat):part p b r b=r:=if_pos rfl
theorem zef {p:Nat→Nat} {b r n:Nat} (h:n≤b):∀k,k<n→part p b r k=p k:=fun k hk=>if_neg (by omega)
theorem zbe {p:Nat→Nat} {b r k:Nat} (h:part p b r k≠0):k=b∨p k≠0:=by
 unfold part at h
 split at h
 ·exact .inl (by assumption)
 ·exact .inr h
theorem zrc {w:World} {d:Nat} {p:Nat→Nat} {m:DM} (h:RD w d p m) (s:Nat) (hs:s<m.size) (A:Option Addr) (c:Nat) (b:List Nat) (hb:By w A 64 c b) (hsb:Sect b) (ho:Off (fun i=>p i=2∨p i=3∨p i=4) A) :
 Calls Tryz.prog 143 #[aD d 0,.agg #[.int .i64 s,.slice A 64 c]] w fun e w'=>(∃v,e=.returned v)∧ROut d p w (m.come (s,b)) w':=by
 obtain ⟨⟨q,hq⟩,hlt⟩:=h
 obtain ⟨l1,l2,l3,l4⟩:=hq.lts
 have hE:Ext w (w.alloc (.cells #[.int .i64 s,.slice A 64 c] 162)):=(Ext.refl w).alloc _
 have hZ:=heap_alloc_new w (.cells #[.int .i64 s,.slice A 64 c] 162)
 obtain ⟨V,hV⟩:∃V,w.alloc (.cells #[.int .i64 s,.slice A 64 c] 162)=V:=⟨_,rfl⟩
 rw [hV] at hE hZ
 have HE:=qj hE
 have HQ:=qj (hq.ext hE)
 have HB:=qj (hb.ext hE)
 have HLT:=qj hlt
 have HO:=qj ho
 have HSB:=qj hsb
 have hsz:m.size≤1024:=hq.head.n1.2
 have n1:d≠q.gr∧w.heap.size≠q.gr:=⟨fun e=>by have a:=hq.pd;have b:=hq.pr;rw [e] at a;omega,by omega⟩
 have n2:d≠q.gm∧w.heap.size≠q.gm:=⟨fun e=>by have a:=hq.pd;have b:=hq.pm;rw [e] at a;omega,by omega⟩
 have n3:d≠q.gl∧w.heap.size≠q.gl:=⟨fun e=>by have a:=hq.pd;have b:=hq.pl;rw [e] at a;omega,by omega⟩
 have N1:=qj n1
 have N2:=qj n2
 have N3:=qj n3
 have hc0:=cell_of_row V w.heap.size 0 _ _ _ hZ
 have hc1:=cell_of_row V w.heap.size 1 _ _ _ hZ
 obtain ⟨⟨d0,d1,d2,_⟩,_⟩:=HQ.out.head.cells
 have HS1:Hid (V.drew.cell? (aD d 0)=some (.slice (some ⟨q.gr,0,none⟩) m.size q.cr)∧V.drew.cell? (aD w.heap.size 0)=some (.int .i64 (s:Int))∧V.drew.cell? (aD w.heap.size 1)=some (.slice A 64 c)):=qj ⟨d0,hc0,hc1⟩
 have HZ:=qj hZ
 have HVR:Hid (Ext V.drew V.drew):=qj (Ext.refl _)
 have i0:(0:Int)≤(s:Int):=by omega
 have i1:(s:Int)<(m.size:Int):=by omega
 have HQd:=qj (HQ.out.ext (Ext.refl V).drew)
 have HBd:Hid (By V.drew A 64 c b):=qj (HB.out.ext (Ext.refl V).drew)
 clear hq hb hsb hlt n1 n2 n3 hE hZ ho
 go_enter Tryz.func143,Tryz.ntmps143
 go_wp2_with fail
 go_region_held3 (fun w'=>w'.cell? (aD d 0)=some (.slice (some ⟨q.gr,0,none⟩) m.size q.cr)∧w'.cell? (aD w.heap.size 0)=some (.int .i64 (s:Int))∧w'.cell? (aD w.heap.size 1)=some (.slice A 64 c))
  (first | exact zls (by assumption) HS1 | exact ztQ (by assumption) N1 HS1)
  (first
   | (go_at_call 108;((with_reducible refine (zcy A b 64 c _ HBd.out (by omega)).mono ?_);rintro e w2 ⟨A1,c1,rfl,_,hx,ho⟩;obtain ⟨b1,rfl,g1,g2,hb1⟩:=zey ho;have HK1:=qj hx;have HY1:=qj hb1;obtain ⟨x1,_,hc1,hf1,hl1⟩:=(HQd.out.ext hx).restAt hs;clear hx ho hb1)))
 have hVs:V.heap.size=w.heap.size+1:=by rw [←hV];simp
 have hQ1:RDq (w2.setCell (aD q.gr s) (slV (b1,c1))) d (part p b1 (7+s)) { q with RB:=q.RB.set s (b1,c1) } { m with rest:=m.rest.set s b }:=((HQd.out.recast (p':=part p b1 (7+s)) (zef g1)).ext HK1.out).setRest hs HSB.out HY1.out (zbI _ _ _)
 have hB1:By (w2.setCell (aD q.gr s) (slV (b1,c1))) A 64 c b:=(HBd.out.ext HK1.out).mod (zaQ _ _ _ _) fun r hr e=>HO.out r hr (.inl (by rw [e];exact HQ.out.pr))
 have hZ1:(w2.setCell (aD q.gr s) (slV (b1,c1))).heap[w.heap.size]?=_:=zbQ (g:=q.gr) (k:=s) (x:=slV (b1,c1)) N1.out.2 ((HK1.out.block _ (show w.heap.size<V.drew.heap.size by show _<V.heap.size;omega)).trans HZ.out)
 have hM1:Mod (fun k=>p k≠0) w (w2.setCell (aD q.gr s) (slV (b1,c1))):=((Mod.of_ext ((HE.out.trans (Ext.refl V).drew).trans HK1.out)).trans (zaQ w2 q.gr s (slV (b1,c1))) fun i hi=>.inl (by rw [hi,HQ.out.pr];omega))
 have hb1:w.heap.size≤b1∧b1<(w2.setCell (aD q.gr s) (slV (b1,c1))).heap.size:=⟨by have:V.drew.heap.size=V.heap.size:=rfl;omega,by simpa [World.setCell] using g2⟩
 rw [show Value.slice (some ⟨b1,0,none⟩) 64 c1=slV (b1,c1) from rfl]
 obtain ⟨X1,hX1⟩:∃X,w2.setCell (aD q.gr s) (slV (b1,c1))=X:=⟨_,rfl⟩
 rw [hX1] at hQ1 hB1 hZ1 hM1 hb1
 rw [hX1]
 have HQ1:=qj (hQ1.ext (Ext.refl X1).drew)
 have HB1:=qj (hB1.ext (Ext.refl X1).drew)
 have HZ1:=qj hZ1
 have HM1:=qj hM1
 have HN1:=qj hb1
 obtain ⟨⟨d0,d1,d2,_⟩,_⟩:=hQ1.head.cells
 have hc0:=cell_of_row X1 w.heap.size 0 _ _ _ hZ1
 have hc1:=cell_of_row X1 w.heap.size 1 _ _ _ hZ1
 have HS2:Hid (X1.drew.cell? (aD d 1)=some (.slice (some ⟨q.gm,0,none⟩) m.size q.cm)∧X1.drew.cell? (aD w.heap.size 0)=some (.int .i64 (s:Int))∧X1.drew.cell? (aD w.heap.size 1)=some (.slice A 64 c)):=qj ⟨by have:=d1;simp only [DM.size,List.length_set] at this ⊢;exact this,hc0,hc1⟩
 have HVR2:Hid (Ext X1.drew X1.drew):=qj (Ext.refl _)
 clear hQ1 hB1 hZ1 hM1 hb1 HS1 HVR HQd HBd hX1 HK1 HY1 g1 g2 hf1 hl1 hc1 hc0 d0 d1 d2
 go_wp2_with fail
 go_region_held3 (fun w'=>w'.cell? (aD d 1)=some (.slice (some ⟨q.gm,0,none⟩) m.size q.cm)∧w'.cell? (aD w.heap.size 0)=some (.int .i64 (s:Int))∧w'.cell? (aD w.heap.size 1)=some (.slice A 64 c))
  (first | exact zls (by assumption) HS2 | exact ztQ (by assumption) N2 HS2)
  (first
   | (go_at_call 108;((with_reducible refine (zcy A b 64 c _ HB1.out (by omega)).mono ?_);rintro e w4 ⟨A2,c2,rfl,_,hx,ho⟩;obtain ⟨b2,rfl,g1,g2,hb2⟩:=zey ho;have HK2:=qj hx;have HY2:=qj hb2;obtain ⟨x2,_,hc2,hf2,hl2⟩:=(HQ1.out.ext hx).meantAt (s:=s) (by simp only [DM.size,List.length_set];exact hs);clear hx ho hb2)))
 have hQ2:RDq (w4.setCell (aD q.gm s) (slV (b2,c2))) d (part (part p b1 (7+s)) b2 6) { q with RB:=q.RB.set s (b1,c1),MB:=q.MB.set s (b2,c2) } { m with rest:=m.rest.set s b,meant:=m.meant.set s b }:=((HQ1.out.recast (p':=part (part p b1 (7+s)) b2 6) (zef g1)).ext HK2.out).setMeant (by simp only [DM.size,List.length_set];exact hs) HSB.out HY2.out (zbI _ _ _)
 have hZ2:(w4.setCell (aD q.gm s) (slV (b2,c2))).heap[w.heap.size]?=_:=zbQ (g:=q.gm) (k:=s) (x:=slV (b2,c2)) N2.out.2 ((HK2.out.block _ (show w.heap.size<X1.drew.heap.size from (Array.getElem?_eq_some_iff.1 HZ1.out).1)).trans HZ1.out)
 have hM2:Mod (fun k=>p k≠0) w (w4.setCell (aD q.gm s) (slV (b2,c2))):=((HM1.out.ext ((Ext.refl X1).drew.trans HK2.out)).trans (zaQ w4 q.gm s (slV (b2,c2))) fun i hi=>.inl (by rw [hi,HQ.out.pm];omega))
 have hb2:X1.heap.size≤b2∧b2<(w4.setCell (aD q.gm s) (slV (b2,c2))).heap.size:=⟨g1,by simpa [World.setCell] using g2⟩
 have hsz2:X1.heap.size≤(w4.setCell (aD q.gm s) (slV (b2,c2))).heap.size:=by have:=HK2.out.size;simp [World.setCell];exact this
 rw [show Value.slice (some ⟨b2,0,none⟩) 64 c2=slV (b2,c2) from rfl]
 obtain ⟨X2,hX2⟩:∃X,w4.setCell (aD q.gm s) (slV (b2,c2))=X:=⟨_,rfl⟩
 rw [hX2] at hQ2 hZ2 hM2 hb2 hsz2
 rw [hX2]
 have HQ2:=qj hQ2
 have HM2:=qj hM2
 have HN2:=qj hb2
 have HZ2:=qj hZ2
 obtain ⟨⟨d0,d1,d2,_⟩,_⟩:=hQ2.head.cells
 have d2':X2.cell? (aD d 2)=some (.slice (some ⟨q.gl,0,none⟩) m.size q.cl):=by have:=d2;simp only [DM.size,List.length_set] at this ⊢;exact this
 have hc0:=cell_of_row X2 w.heap.size 0 _ _ _ hZ2
 obtain ⟨hcl,hfl,hll⟩:=hQ2.lostAt (s:=s) (by simp only [DM.size,List.length_set];exact hs)
 clear hQ2 hZ2 hM2 hb2 HS2 HVR2 HQ1 HB1 HZ1 HM1 hX2 HK2 HY2 g1 g2 hf2 hl2 hc2 d0 d1 d2
 go_wp2_with fail
 go_region
 go_end0
 have hM3:Mod (fun k=>p k≠0) w (X2.setCell (aD q.gl s) (.bool false)).drew:=((HM2.out.trans (zaQ X2 q.gl s (.bool false)) fun i hi=>.inl (by rw [hi,HQ.out.pl];omega))).drew
 have hs3:(X2.setCell (aD q.gl s) (.bool false)).drew.heap.size=X2.heap.size:=by show (X2.setCell (aD q.gl s) (.bool false)).heap.size=_;simp [World.setCell]
 refine ⟨⟨_,rfl⟩,part (part p b1 (7+s)) b2 6,⟨⟨_,(HQ2.out.setLost s false).ext (Ext.refl _).drew⟩,fun k hk=>?_⟩,hM3,fun k hk=>?_⟩
 ·rw [hs3]
  rcases zbe hk with rfl | hk
  ·exact HN2.out.2
  ·rcases zbe hk with rfl | hk
   ·exact Nat.lt_of_lt_of_le HN1.out.2 hsz2
   ·exact Nat.lt_of_lt_of_le (HLT.out k hk) HM2.out.size
 ·rcases zbe hk with rfl | hk
  ·exact .inr (Nat.le_trans (Nat.le_trans HN1.out.1 (Nat.le_of_lt HN1.out.2)) HN2.out.1)
  ·rcases zbe hk with rfl | hk
   ·exact .inr HN1.out.1
   ·exact .inl hk
end Go.Proofs.YtdbpdhlecgoclaaGreatDoor
