/-
  The document's slot: what it is,and where the next put goes.
-/
import Derived.Test.YtdbpdhlecgoclaaGreatDoorP00
import Derived.Test.YtdbpdhlecgoclaaGreatDoorP01
import Derived.Test.YtdbpdhlecgoclaaGreatDoorP05
import Derived.Test.YtdbpdhlecgoclaaGreatDoorP09
import Derived.Test.YtdbpdhlecgoclaaGreatDoorP18
import Derived.Test.YtdbpdhlecgoclaaGreatDoorP23
namespace Go.Proofs.YtdbpdhlecgoclaaGreatDoor
set_option maxRecDepth 100000
set_option maxHeartbeats 6400000
open Go Go.RowKit
structure RWh (w W:World) (p:Rec) (f0 f1:CopL) (i:Int) (g:Nat):Prop where
 rec_:zbj W g p
 two:TwoL W (g+1) f0 f1
 res:W.heap[g+1+1]?=some (.cells #[.int .i64 0,.int .u8 0,.int .i64 0,.int .i64 0,.int .u8 0,.int .i64 0,.int .i64 0,.int .u8 0,.string ⟨#[]⟩,.string ⟨#[]⟩,.string ⟨#[]⟩] 115 (0,0))
 rep:W.heap[g+1+1+1]?=some (.cells #[.int .i64 i,.int .u8 0,.int .i64 0,.int .i64 0,.int .u8 0,.int .i64 0,.int .i64 0,.int .u8 0,.string ⟨#[]⟩,.string ⟨#[]⟩,.string ⟨#[]⟩] 115 (0,0))
 ext:Ext w W
 low:w.heap.size≤g
theorem RWh.make (w:World) (p:Rec) (f0 f1:CopL) (i:Int):RWh w ((((w.alloc (.cells p 90)).alloc (.cells (f0,f1) 93)).alloc (.cells Zk.b 115)).alloc (.cells #[.int .i64 i,.int .u8 0,.int .i64 0,.int .i64 0,.int .u8 0,.int .i64 0,.int .i64 0,.int .u8 0,.string ⟨#[]⟩,.string ⟨#[]⟩,.string ⟨#[]⟩] 115)) p f0 f1 i w.heap.size:=by
 obtain ⟨h1,h2,h3⟩:=zbg w p f0 f1
 have e:((w.alloc (.cells p 90)).alloc (.cells (f0,f1) 93)).heap.size=w.heap.size+1+1:=by simp
 generalize ((w.alloc (.cells p 90)).alloc (.cells (f0,f1) 93))=W at *
 have h4:=heap_alloc_new W (.cells Zk.b 115)
 have h5:=heap_alloc_new (W.alloc (.cells Zk.b 115)) (.cells #[.int .i64 i,.int .u8 0,.int .i64 0,.int .i64 0,.int .u8 0,.int .i64 0,.int .i64 0,.int .u8 0,.string ⟨#[]⟩,.string ⟨#[]⟩,.string ⟨#[]⟩] 115)
 rw [World.size_alloc,e] at h5
 rw [e] at h4
 have x1:Ext W ((W.alloc (.cells Zk.b 115)).alloc (.cells #[.int .i64 i,.int .u8 0,.int .i64 0,.int .i64 0,.int .u8 0,.int .i64 0,.int .i64 0,.int .u8 0,.string ⟨#[]⟩,.string ⟨#[]⟩,.string ⟨#[]⟩] 115)):=((Ext.refl W).alloc _).alloc _
 have x2:Ext (W.alloc (.cells Zk.b 115)) ((W.alloc (.cells Zk.b 115)).alloc (.cells #[.int .i64 i,.int .u8 0,.int .i64 0,.int .i64 0,.int .u8 0,.int .i64 0,.int .i64 0,.int .u8 0,.string ⟨#[]⟩,.string ⟨#[]⟩,.string ⟨#[]⟩] 115)):=(Ext.refl _).alloc _
 exact ⟨h1.ext x1,h2.ext x1,zaa x2 h4,h5,h3.trans x1,Nat.le_refl _⟩
theorem RWh.mono {w W W':World} {p:Rec} {f0 f1:CopL} {i:Int} {g:Nat} (h:RWh w W p f0 f1 i g) (k:Ext W W'):RWh w W' p f0 f1 i g :=
 ⟨h.rec_.ext k,h.two.ext k,zaa k h.res,zaa k h.rep,h.ext.trans k,h.low⟩
theorem zam {w:World} {g:Nat} {a0 a1 a2 a3 a4 a5 a6 a7 a8 a9 a10:Value} {t:TypeId} (h:w.heap[g]?=some (.cells #[a0,a1,a2,a3,a4,a5,a6,a7,a8,a9,a10] t (0,0))):(CW.mk w g [a0,a1,a2,a3,a4,a5,a6,a7,a8,a9,a10]:Prop) :=
 ⟨cell_of_row w g 0 _ _ _ h,cell_of_row w g 1 _ _ _ h,cell_of_row w g 2 _ _ _ h,cell_of_row w g 3 _ _ _ h,cell_of_row w g 4 _ _ _ h,cell_of_row w g 5 _ _ _ h,cell_of_row w g 6 _ _ _ h,cell_of_row w g 7 _ _ _ h,cell_of_row w g 8 _ _ _ h,cell_of_row w g 9 _ _ _ h,cell_of_row w g 10 _ _ _ h⟩
theorem zaL {w:World} {g:Nat} {a0 a1 a2 a3 a4 a5 a6 a7 a8 a9 a10:Value} {t:TypeId} (h:w.heap[g]?=some (.cells #[a0,a1,a2,a3,a4,a5,a6,a7,a8,a9,a10] t (0,0))):w.frozen? (aD g 0)=false∧w.frozen? (aD g 1)=false∧w.frozen? (aD g 2)=false∧w.frozen? (aD g 3)=false∧w.frozen? (aD g 4)=false∧w.frozen? (aD g 5)=false∧w.frozen? (aD g 6)=false∧w.frozen? (aD g 7)=false∧w.frozen? (aD g 8)=false∧w.frozen? (aD g 9)=false∧w.frozen? (aD g 10)=false :=
 ⟨frozen_of_row w g 0 _ _ h,frozen_of_row w g 1 _ _ h,frozen_of_row w g 2 _ _ h,frozen_of_row w g 3 _ _ h,frozen_of_row w g 4 _ _ h,frozen_of_row w g 5 _ _ h,frozen_of_row w g 6 _ _ h,frozen_of_row w g 7 _ _ h,frozen_of_row w g 8 _ _ h,frozen_of_row w g 9 _ _ h,frozen_of_row w g 10 _ _ h⟩
theorem zpO (p:Rec) (f0 f1:CopL) (i:Int) (w:World) (hw:p.wh=0∨p.wh=1) :
 (cL 40 #[.agg p,.agg (f0,f1),.int .i64 i] w (.int .i64 (nextL p f0 f1 i)):Prop):=by
 have HP:=qj (zbg w p f0 f1)
 have HWH:=qj (fun V=>ziO p f0 f1 i V hw)
 have hwk:whereL p f0 f1 i=-1∨whereL p f0 f1 i=0∨whereL p f0 f1 i=1:=by rcases zdm (p:=p) (f0:=f0) (f1:=f1) (i:=i) with h | h | h <;> simp [h]
 have hnx:nextL p f0 f1 i=if 0≤whereL p f0 f1 i then 1-whereL p f0 f1 i else if p.st=1∧p.wh=0 then 1 else 0:=rfl
 rw [hnx]
 have hq:(p.st=1∧p.wh=0)∧((p.st:Int) == 1)=true∧(p.wh.tmod 2 == 0)=true∧(p.wh%2 == 0)=true∨¬(p.st=1∧p.wh=0)∧(((p.st:Int) == 1)=false∨((p.st:Int) == 1)=true∧(p.wh.tmod 2 == 0)=false∧(p.wh%2 == 0)=false):=by
  by_cases h1:p.st=1
  ·have e:((p.st:Int) == 1)=true:=by rw [h1];rfl
   rcases hw with h | h
   ·exact .inl ⟨⟨h1,h⟩,e,by rw [h];rfl,by rw [h];rfl⟩
   ·exact .inr ⟨fun hh=>by omega,.inr ⟨e,by rw [h];rfl,by rw [h];rfl⟩⟩
  ·exact .inr ⟨fun hh=>h1 hh.1,.inl (by simp;omega)⟩
 have hw0:0≤p.wh:=by omega
 have hw1:p.wh≤1:=by omega
 generalize whereL p f0 f1 i=k at *
 clear hnx hw
 go_enter Tryz.func40,Tryz.ntmps40
 go_upto_region 1 with (fail)
 generalize ((w.alloc (.cells p 90)).alloc (.cells (f0,f1) 93))=W at *
 generalize w.heap.size+1=g1 at *
 generalize w.heap.size=g at *
 obtain ⟨c0,c1,c2,c3,c4⟩:=HP.out.1.cells
 obtain ⟨N,hN,hsz⟩:=zaz
 have hld:=zar hN HP.out.2.1
 have HN:=qj hN
 clear hN
 go_wp2_with fail
 refine (HWH.out W).mono ?_
 rintro e w1 ⟨rfl,hx⟩
 have HR:=qj (HP.out.1.ext hx)
 have HX:=qj (HP.out.2.2.trans hx)
 clear hx c0 c1 c2 c3 c4 hld hsz
 obtain ⟨c0,c1,c2,c3,c4⟩:=HR.out.cells
 rcases hwk with rfl | rfl | rfl
 ·rcases hq with ⟨HQ,q1,q2,q3⟩ | ⟨HQ,q1 | ⟨q1,q2,q3⟩⟩
  ·have HQ:=qj HQ
   go_wp2_with fail
   go_ret
   exact ⟨rfl,HX.out⟩
  all_goals
   have HQ:=qj HQ
   go_wp2_with fail
   go_ret
   exact ⟨rfl,HX.out⟩
 all_goals
  clear hq
  go_wp2_with fail
  go_ret
  exact ⟨by rfl,HX.out⟩
theorem zdg {w:World} {g:Nat} {b0 b1 b2 b3 b4 b5 b6 b7 b8 b9 b10:Value} {t:TypeId} (h:w.heap[g]?=some (.cells #[b0,b1,b2,b3,b4,b5,b6,b7,b8,b9,b10] t (0,0))) (a0 a1 a2 a3 a4 a5 a6 a7 a8 a9 a10:Value):((SW.mk w g [a0,a1,a2,a3,a4,a5,a6,a7,a8,a9,a10]:World)).heap[g]?=some (.cells #[a0,a1,a2,a3,a4,a5,a6,a7,a8,a9,a10] t (0,0)):=by
 have h0:=zae (cs':=#[a0,b1,b2,b3,b4,b5,b6,b7,b8,b9,b10]) 0 h a0 rfl
 have h1:=zae (cs':=#[a0,a1,b2,b3,b4,b5,b6,b7,b8,b9,b10]) 1 h0 a1 rfl
 have h2:=zae (cs':=#[a0,a1,a2,b3,b4,b5,b6,b7,b8,b9,b10]) 2 h1 a2 rfl
 have h3:=zae (cs':=#[a0,a1,a2,a3,b4,b5,b6,b7,b8,b9,b10]) 3 h2 a3 rfl
 have h4:=zae (cs':=#[a0,a1,a2,a3,a4,b5,b6,b7,b8,b9,b10]) 4 h3 a4 rfl
 have h5:=zae (cs':=#[a0,a1,a2,a3,a4,a5,b6,b7,b8,b9,b10]) 5 h4 a5 rfl
 have h6:=zae (cs':=#[a0,a1,a2,a3,a4,a5,a6,b7,b8,b9,b10]) 6 h5 a6 rfl
 have h7:=zae (cs':=#[a0,a1,a2,a3,a4,a5,a6,a7,b8,b9,b10]) 7 h6 a7 rfl
 have h8:=zae (cs':=#[a0,a1,a2,a3,a4,a5,a6,a7,a8,b9,b10]) 8 h7 a8 rfl
 have h9:=zae (cs':=#[a0,a1,a2,a3,a4,a5,a6,a7,a8,a9,b10]) 9 h8 a9 rfl
 have h10:=zae (cs':=#[a0,a1,a2,a3,a4,a5,a6,a7,a8,a9,a10]) 10 h9 a10 rfl
 exact h10
theorem zdh {u w:World} {g:Nat} (h:Ext u w) (hg:u.heap.size≤g) (a0 a1 a2 a3 a4 a5 a6 a7 a8 a9 a10:Value):Ext u ((SW.mk w g [a0,a1,a2,a3,a4,a5,a6,a7,a8,a9,a10]:World)) :=
 ((((((((((((((((((((((h).setCell (p:=⟨g,0,none⟩) hg a0)).setCell (p:=⟨g,1,none⟩) hg a1)).setCell (p:=⟨g,2,none⟩) hg a2)).setCell (p:=⟨g,3,none⟩) hg a3)).setCell (p:=⟨g,4,none⟩) hg a4)).setCell (p:=⟨g,5,none⟩) hg a5)).setCell (p:=⟨g,6,none⟩) hg a6)).setCell (p:=⟨g,7,none⟩) hg a7)).setCell (p:=⟨g,8,none⟩) hg a8)).setCell (p:=⟨g,9,none⟩) hg a9)).setCell (p:=⟨g,10,none⟩) hg a10)
theorem zbX {V:World} {a:Act} {g7:Nat} {C K:Int} {a0 a1 a2 a3 a4 a5 a6 a7 a8 a9 a10:Value} {R:Ending→World→Prop} (h6:a.tmps.getD 6 undef=.int .u8 C) (h7:a.tmps.getD 7 undef=.pointer (some ⟨g7,0,none⟩)) (h8:a.tmps.getD 8 undef=.int .i64 K) (hd:a.defers=[])
 (hT:V.heap[g7]?=some (.cells #[a0,a1,a2,a3,a4,a5,a6,a7,a8,a9,a10] 115 (0,0))) (hR:R (.returned (.tuple #[.int .u8 C,.agg #[a0,a1,a2,a3,a4,a5,a6,a7,a8,a9,a10],K])) V):bodyPost Tryz.prog Tryz.f111 R .ret a V:=by
 obtain ⟨t0,t1,t2,t3,t4,t5,t6,t7,t8,t9,t10⟩:=zam hT
 have h6':a.tmps[6]?.getD undef=.int .u8 C:=by simpa using h6
 have h7':a.tmps[7]?.getD undef=.pointer (some ⟨g7,0,none⟩):=by simpa using h7
 have h8':a.tmps[8]?.getD undef=.int .i64 K:=by simpa using h8
 refine bodyPost_ret (v:=.tuple #[.int .u8 C,.agg #[a0,a1,a2,a3,a4,a5,a6,a7,a8,a9,a10],K]) ?_ hd hR
 simp [results,Tryz.results111,go_sem,h6',h7',h8',t0,t1,t2,t3,t4,t5,t6,t7,t8,t9,t10]
theorem zrN (p:Rec) (f0 f1:CopL) (i:Int) :
 (whereL p f0 f1 i=0∧classL p f0 f1 i=3∧stateL p f0 f1 i=2∧repX p f0 f1 i=f0.bx∧repY p f0 f1 i=f0.yb∧repE p f0 f1 i=f0.e) ∨
 (whereL p f0 f1 i=1∧classL p f0 f1 i=3∧stateL p f0 f1 i=2∧repX p f0 f1 i=f1.bx∧repY p f0 f1 i=f1.yb∧repE p f0 f1 i=f1.e) ∨
 (whereL p f0 f1 i=-1∧p.of i∧classL p f0 f1 i=2∧stateL p f0 f1 i=3∧repX p f0 f1 i=p.bx∧repY p f0 f1 i=p.yb∧repE p f0 f1 i={}) ∨
 (whereL p f0 f1 i=-1∧¬p.of i∧(beyL p f0 f1 i∨(p.st=2∧badL f0 f1))∧classL p f0 f1 i=2∧stateL p f0 f1 i=4∧repX p f0 f1 i=0∧repY p f0 f1 i=0∧repE p f0 f1 i={}) ∨
 (whereL p f0 f1 i=-1∧¬p.of i∧¬(beyL p f0 f1 i∨(p.st=2∧badL f0 f1))∧classL p f0 f1 i=(if badL f0 f1 then 1 else 0)∧stateL p f0 f1 i=1∧repX p f0 f1 i=0∧repY p f0 f1 i=0∧repE p f0 f1 i={}):=by
 unfold classL stateL repX repY repE
 have n0:¬(0:Int)≤-1:=by omega
 rcases zdm (p:=p) (f0:=f0) (f1:=f1) (i:=i) with h | ⟨h,_⟩ | ⟨h,_⟩ <;> rw [h]
 ·by_cases ho:p.of i
  ·exact .inr (.inr (.inl ⟨rfl,ho,by simp [ho],by simp [ho],by simp [ho],by simp [ho],by simp⟩))
  ·by_cases hb:beyL p f0 f1 i∨(p.st=2∧badL f0 f1)
   ·exact .inr (.inr (.inr (.inl ⟨rfl,ho,hb,by simp only [n0,ho,hb,if_false,if_true],by simp only [n0,ho,hb,if_false,if_true],by simp [ho],by simp [ho],by simp⟩)))
   ·exact .inr (.inr (.inr (.inr ⟨rfl,ho,hb,by simp only [n0,ho,hb,if_false],by simp only [n0,ho,hb,if_false],by simp [ho],by simp [ho],by simp⟩)))
 ·exact .inl ⟨rfl,by simp,by simp,by simp [cop],by simp [cop],by simp [cop]⟩
 ·exact .inr (.inl ⟨rfl,by simp,by simp,by simp [cop],by simp [cop],by simp [cop]⟩)
theorem zrP (p:Rec) (f0 f1:CopL) (i:Int) (w:World) (hw:p.wh=0∨p.wh=1) :
 (cL 111 #[.agg p,.agg (f0,f1),.int .i64 i] w (.tuple #[.int .u8 (classL p f0 f1 i:Nat),.agg #[.int .i64 i,.int .u8 (stateL p f0 f1 i:Nat),.int .i64 (repX p f0 f1 i),.int .i64 (repY p f0 f1 i),.int .u8 ((repE p f0 f1 i).k:Int),.int .i64 (repE p f0 f1 i).cl,.int .i64 (repE p f0 f1 i).sq,.int .u8 ((repE p f0 f1 i).ok:Int),.string (repE p f0 f1 i).key,.string (repE p f0 f1 i).old,.string (repE p f0 f1 i).val],.int .i64 (whereL p f0 f1 i)]):Prop):=by
 have HP:=qj (RWh.make w p f0 f1 i)
 have HWH:=qj (fun V=>ziO p f0 f1 i V hw)
 have HB:=qj (fun V=>zhN p f0 f1 i V)
 have HV:=qj (zrN p f0 f1 i)
 generalize whereL p f0 f1 i=K at *
 generalize classL p f0 f1 i=C at *
 generalize stateL p f0 f1 i=S at *
 generalize repX p f0 f1 i=X at *
 generalize repY p f0 f1 i=Y at *
 generalize repE p f0 f1 i=E at *
 clear hw
 go_enter Tryz.func111,Tryz.ntmps111
 go_upto_region 2 with (fail)
 generalize ((((w.alloc (.cells p 90)).alloc (.cells (f0,f1) 93)).alloc (.cells Zk.b 115)).alloc (.cells #[.int .i64 i,.int .u8 0,.int .i64 0,.int .i64 0,.int .u8 0,.int .i64 0,.int .i64 0,.int .u8 0,.string ⟨#[]⟩,.string ⟨#[]⟩,.string ⟨#[]⟩] 115))=W at *
 generalize hg:w.heap.size=g at *
 have HG:=qj hg
 clear hg
 obtain ⟨c0,c1,c2,c3,c4⟩:=HP.out.rec_.cells
 obtain ⟨N,hN,hsz⟩:=zaz
 have hld:=zar hN HP.out.two
 have HN:=qj hN
 clear hN
 go_wp2_with fail
 refine (HWH.out W).mono ?_
 rintro e w1 ⟨rfl,hx⟩
 have HP:=qj (HP.out.mono hx)
 clear hx c0 c1 c2 c3 c4 hld hsz
 obtain ⟨z0,z1,z2,z3,z4,z5,z6,z7,z8,z9,z10⟩:=zam HP.out.rep
 obtain ⟨m0,m1,m2,m3,m4,m5,m6,m7,m8,m9,m10⟩:=zaL HP.out.rep
 have hbb:((f0.st:Int) == 2)=true∨((f0.st:Int) == 2)=false∧((f1.st:Int) == 2)=true∨((f0.st:Int) == 2)=false∧((f1.st:Int) == 2)=false:=by cases ((f0.st:Int) == 2) <;> cases ((f1.st:Int) == 2) <;> simp
 rcases HV.out with ⟨rfl,rfl,rfl,rfl,rfl,rfl⟩ | ⟨rfl,rfl,rfl,rfl,rfl,rfl⟩ | ⟨rfl,ho,rfl,rfl,rfl,rfl,rfl⟩ | ⟨rfl,ho,hb,rfl,rfl,rfl,rfl,rfl⟩ | ⟨rfl,ho,hb,hC,rfl,rfl,rfl,rfl⟩
 ·obtain ⟨x0,x1,x2,x3,x4,x5,x6,x7,x8,x9,x10⟩:=HP.out.two.first
  go_upto_region 7 with (fail)
  clear x0 x1 x2 x3 x4 x5 x6 x7 x8 x9 x10
  have r0:=zae (cs':=#[.int .i64 i,.int .u8 2,.int .i64 0,.int .i64 0,.int .u8 0,.int .i64 0,.int .i64 0,.int .u8 0,.string ⟨#[]⟩,.string ⟨#[]⟩,.string ⟨#[]⟩]) 1 (HP.out.rep) (.int .u8 2) rfl
  have r1:=zae (cs':=#[.int .i64 i,.int .u8 2,f0.bx,.int .i64 0,.int .u8 0,.int .i64 0,.int .i64 0,.int .u8 0,.string ⟨#[]⟩,.string ⟨#[]⟩,.string ⟨#[]⟩]) 2 (r0) f0.bx rfl
  have r2:=zae (cs':=#[.int .i64 i,.int .u8 2,f0.bx,f0.yb,.int .u8 0,.int .i64 0,.int .i64 0,.int .u8 0,.string ⟨#[]⟩,.string ⟨#[]⟩,.string ⟨#[]⟩]) 3 (r1) f0.yb rfl
  have r3:=zae (cs':=#[.int .i64 i,.int .u8 2,f0.bx,f0.yb,f0.e.k,.int .i64 0,.int .i64 0,.int .u8 0,.string ⟨#[]⟩,.string ⟨#[]⟩,.string ⟨#[]⟩]) 4 (r2) f0.e.k rfl
  have r4:=zae (cs':=#[.int .i64 i,.int .u8 2,f0.bx,f0.yb,f0.e.k,f0.e.cl,.int .i64 0,.int .u8 0,.string ⟨#[]⟩,.string ⟨#[]⟩,.string ⟨#[]⟩]) 5 (r3) f0.e.cl rfl
  have r5:=zae (cs':=#[.int .i64 i,.int .u8 2,f0.bx,f0.yb,f0.e.k,f0.e.cl,f0.e.sq,.int .u8 0,.string ⟨#[]⟩,.string ⟨#[]⟩,.string ⟨#[]⟩]) 6 (r4) f0.e.sq rfl
  have r6:=zae (cs':=#[.int .i64 i,.int .u8 2,f0.bx,f0.yb,f0.e.k,f0.e.cl,f0.e.sq,f0.e.ok,.string ⟨#[]⟩,.string ⟨#[]⟩,.string ⟨#[]⟩]) 7 (r5) f0.e.ok rfl
  have r7:=zae (cs':=#[.int .i64 i,.int .u8 2,f0.bx,f0.yb,f0.e.k,f0.e.cl,f0.e.sq,f0.e.ok,f0.e.key,.string ⟨#[]⟩,.string ⟨#[]⟩]) 8 (r6) f0.e.key rfl
  have r8:=zae (cs':=#[.int .i64 i,.int .u8 2,f0.bx,f0.yb,f0.e.k,f0.e.cl,f0.e.sq,f0.e.ok,f0.e.key,f0.e.old,.string ⟨#[]⟩]) 9 (r7) f0.e.old rfl
  have r9:=zae (cs':=#[.int .i64 i,.int .u8 2,f0.bx,f0.yb,f0.e.k,f0.e.cl,f0.e.sq,f0.e.ok,f0.e.key,f0.e.old,f0.e.val]) 10 (r8) f0.e.val rfl
  have HR9:=qj r9
  have hm:=zbt (g:=g+1+1+1) [.int .u8 2,f0.bx,f0.yb,f0.e.k,f0.e.cl,f0.e.sq,f0.e.ok,f0.e.key,f0.e.old,f0.e.val] w1 1
  have HR7:=qj (zah HP.out.res hm (by omega))
  have HX:=qj (zaK HP.out.ext (g:=g+1+1+1) (by have:=HP.out.low;omega) [.int .u8 2,f0.bx,f0.yb,f0.e.k,f0.e.cl,f0.e.sq,f0.e.ok,f0.e.key,f0.e.old,f0.e.val] 1)
  simp only [setL] at hm HR7 HX
  clear r0 r1 r2 r3 r4 r5 r6 r7 r8 r9 hm
  generalize ((SU.mk w1 (g+1+1+1) [.int .u8 2,f0.bx,f0.yb,f0.e.k,f0.e.cl,f0.e.sq,f0.e.ok,f0.e.key,f0.e.old,f0.e.val]:World))=V at *
  clear z0 z1 z2 z3 z4 z5 z6 z7 z8 z9 z10 m0 m1 m2 m3 m4 m5 m6 m7 m8 m9 m10
  obtain ⟨z0,z1,z2,z3,z4,z5,z6,z7,z8,z9,z10⟩:=zam HR9.out
  obtain ⟨n0,n1,n2,n3,n4,n5,n6,n7,n8,n9,n10⟩:=zam HR7.out
  obtain ⟨m0,m1,m2,m3,m4,m5,m6,m7,m8,m9,m10⟩:=zaL HR7.out
  go_wp2_with fail
  go_region
  have hT:=zdg HR7.out (.int .i64 i) (.int .u8 2) f0.bx f0.yb f0.e.k f0.e.cl f0.e.sq f0.e.ok f0.e.key f0.e.old f0.e.val
  have hE:=zdh HX.out (show w.heap.size≤g+1+1 by have:=HP.out.low;omega) (.int .i64 i) (.int .u8 2) f0.bx f0.yb f0.e.k f0.e.cl f0.e.sq f0.e.ok f0.e.key f0.e.old f0.e.val
  generalize ((SW.mk V (g+1+1) [.int .i64 i,.int .u8 2,f0.bx,f0.yb,f0.e.k,f0.e.cl,f0.e.sq,f0.e.ok,f0.e.key,f0.e.old,f0.e.val]:World))=T at *
  clear z0 z1 z2 z3 z4 z5 z6 z7 z8 z9 z10 n0 n1 n2 n3 n4 n5 n6 n7 n8 n9 n10 m0 m1 m2 m3 m4 m5 m6 m7 m8 m9 m10
  go_wp2_with fail
  exact zbX rfl rfl rfl rfl (zaa (Ext.refl T).drew hT) ⟨rfl,hE.drew⟩
 ·obtain ⟨x0,x1,x2,x3,x4,x5,x6,x7,x8,x9,x10⟩:=HP.out.two.second
  go_upto_region 7 with (fail)
  clear x0 x1 x2 x3 x4 x5 x6 x7 x8 x9 x10
  have r0:=zae (cs':=#[.int .i64 i,.int .u8 2,.int .i64 0,.int .i64 0,.int .u8 0,.int .i64 0,.int .i64 0,.int .u8 0,.string ⟨#[]⟩,.string ⟨#[]⟩,.string ⟨#[]⟩]) 1 (HP.out.rep) (.int .u8 2) rfl
  have r1:=zae (cs':=#[.int .i64 i,.int .u8 2,f1.bx,.int .i64 0,.int .u8 0,.int .i64 0,.int .i64 0,.int .u8 0,.string ⟨#[]⟩,.string ⟨#[]⟩,.string ⟨#[]⟩]) 2 (r0) f1.bx rfl
  have r2:=zae (cs':=#[.int .i64 i,.int .u8 2,f1.bx,f1.yb,.int .u8 0,.int .i64 0,.int .i64 0,.int .u8 0,.string ⟨#[]⟩,.string ⟨#[]⟩,.string ⟨#[]⟩]) 3 (r1) f1.yb rfl
  have r3:=zae (cs':=#[.int .i64 i,.int .u8 2,f1.bx,f1.yb,f1.e.k,.int .i64 0,.int .i64 0,.int .u8 0,.string ⟨#[]⟩,.string ⟨#[]⟩,.string ⟨#[]⟩]) 4 (r2) f1.e.k rfl
  have r4:=zae (cs':=#[.int .i64 i,.int .u8 2,f1.bx,f1.yb,f1.e.k,f1.e.cl,.int .i64 0,.int .u8 0,.string ⟨#[]⟩,.string ⟨#[]⟩,.string ⟨#[]⟩]) 5 (r3) f1.e.cl rfl
  have r5:=zae (cs':=#[.int .i64 i,.int .u8 2,f1.bx,f1.yb,f1.e.k,f1.e.cl,f1.e.sq,.int .u8 0,.string ⟨#[]⟩,.string ⟨#[]⟩,.string ⟨#[]⟩]) 6 (r4) f1.e.sq rfl
  have r6:=zae (cs':=#[.int .i64 i,.int .u8 2,f1.bx,f1.yb,f1.e.k,f1.e.cl,f1.e.sq,f1.e.ok,.string ⟨#[]⟩,.string ⟨#[]⟩,.string ⟨#[]⟩]) 7 (r5) f1.e.ok rfl
  have r7:=zae (cs':=#[.int .i64 i,.int .u8 2,f1.bx,f1.yb,f1.e.k,f1.e.cl,f1.e.sq,f1.e.ok,f1.e.key,.string ⟨#[]⟩,.string ⟨#[]⟩]) 8 (r6) f1.e.key rfl
  have r8:=zae (cs':=#[.int .i64 i,.int .u8 2,f1.bx,f1.yb,f1.e.k,f1.e.cl,f1.e.sq,f1.e.ok,f1.e.key,f1.e.old,.string ⟨#[]⟩]) 9 (r7) f1.e.old rfl
  have r9:=zae (cs':=#[.int .i64 i,.int .u8 2,f1.bx,f1.yb,f1.e.k,f1.e.cl,f1.e.sq,f1.e.ok,f1.e.key,f1.e.old,f1.e.val]) 10 (r8) f1.e.val rfl
  have HR9:=qj r9
  have hm:=zbt (g:=g+1+1+1) [.int .u8 2,f1.bx,f1.yb,f1.e.k,f1.e.cl,f1.e.sq,f1.e.ok,f1.e.key,f1.e.old,f1.e.val] w1 1
  have HR7:=qj (zah HP.out.res hm (by omega))
  have HX:=qj (zaK HP.out.ext (g:=g+1+1+1) (by have:=HP.out.low;omega) [.int .u8 2,f1.bx,f1.yb,f1.e.k,f1.e.cl,f1.e.sq,f1.e.ok,f1.e.key,f1.e.old,f1.e.val] 1)
  simp only [setL] at hm HR7 HX
  clear r0 r1 r2 r3 r4 r5 r6 r7 r8 r9 hm
  generalize ((SU.mk w1 (g+1+1+1) [.int .u8 2,f1.bx,f1.yb,f1.e.k,f1.e.cl,f1.e.sq,f1.e.ok,f1.e.key,f1.e.old,f1.e.val]:World))=V at *
  clear z0 z1 z2 z3 z4 z5 z6 z7 z8 z9 z10 m0 m1 m2 m3 m4 m5 m6 m7 m8 m9 m10
  obtain ⟨z0,z1,z2,z3,z4,z5,z6,z7,z8,z9,z10⟩:=zam HR9.out
  obtain ⟨n0,n1,n2,n3,n4,n5,n6,n7,n8,n9,n10⟩:=zam HR7.out
  obtain ⟨m0,m1,m2,m3,m4,m5,m6,m7,m8,m9,m10⟩:=zaL HR7.out
  go_wp2_with fail
  go_region
  have hT:=zdg HR7.out (.int .i64 i) (.int .u8 2) f1.bx f1.yb f1.e.k f1.e.cl f1.e.sq f1.e.ok f1.e.key f1.e.old f1.e.val
  have hE:=zdh HX.out (show w.heap.size≤g+1+1 by have:=HP.out.low;omega) (.int .i64 i) (.int .u8 2) f1.bx f1.yb f1.e.k f1.e.cl f1.e.sq f1.e.ok f1.e.key f1.e.old f1.e.val
  generalize ((SW.mk V (g+1+1) [.int .i64 i,.int .u8 2,f1.bx,f1.yb,f1.e.k,f1.e.cl,f1.e.sq,f1.e.ok,f1.e.key,f1.e.old,f1.e.val]:World))=T at *
  clear z0 z1 z2 z3 z4 z5 z6 z7 z8 z9 z10 n0 n1 n2 n3 n4 n5 n6 n7 n8 n9 n10 m0 m1 m2 m3 m4 m5 m6 m7 m8 m9 m10
  go_wp2_with fail
  exact zbX rfl rfl rfl rfl (zaa (Ext.refl T).drew hT) ⟨rfl,hE.drew⟩
 ·have e1:((p.st:Int) == 1)=true:=by rw [ho.1];rfl
  have e2:(p.ix == i)=true:=by simp [ho.2]
  obtain ⟨c0,c1,c2,c3,c4⟩:=HP.out.rec_.cells
  obtain ⟨x0,_⟩:=HP.out.two.first
  obtain ⟨y0,_⟩:=HP.out.two.second
  clear ho HB
  rcases hbb with k1 | ⟨k1,k2⟩ | ⟨k1,k2⟩
  all_goals
   go_upto_region 12 with (fail)
   clear c0 c1 c2 c3 c4 x0 y0 e1 e2 k1
   have r0:=zae (cs':=#[.int .i64 i,.int .u8 3,.int .i64 0,.int .i64 0,.int .u8 0,.int .i64 0,.int .i64 0,.int .u8 0,.string ⟨#[]⟩,.string ⟨#[]⟩,.string ⟨#[]⟩]) 1 (HP.out.rep) (.int .u8 3) rfl
   have r1:=zae (cs':=#[.int .i64 i,.int .u8 3,p.bx,.int .i64 0,.int .u8 0,.int .i64 0,.int .i64 0,.int .u8 0,.string ⟨#[]⟩,.string ⟨#[]⟩,.string ⟨#[]⟩]) 2 (r0) p.bx rfl
   have r2:=zae (cs':=#[.int .i64 i,.int .u8 3,p.bx,p.yb,.int .u8 0,.int .i64 0,.int .i64 0,.int .u8 0,.string ⟨#[]⟩,.string ⟨#[]⟩,.string ⟨#[]⟩]) 3 (r1) p.yb rfl
   have HR9:=qj r2
   have hm:=zbt (g:=g+1+1+1) [.int .u8 3,p.bx,p.yb] w1 1
   have HR7:=qj (zah HP.out.res hm (by omega))
   have HX:=qj (zaK HP.out.ext (g:=g+1+1+1) (by have:=HP.out.low;omega) [.int .u8 3,p.bx,p.yb] 1)
   simp only [setL] at hm HR7 HX
   clear r0 r1 r2 hm
   generalize (((w1.setCell (aD (g+1+1+1) 1) (.int .u8 3)).setCell (aD (g+1+1+1) 2) p.bx).setCell (aD (g+1+1+1) 3) p.yb)=V at *
   clear z0 z1 z2 z3 z4 z5 z6 z7 z8 z9 z10 m0 m1 m2 m3 m4 m5 m6 m7 m8 m9 m10
   obtain ⟨z0,z1,z2,z3,z4,z5,z6,z7,z8,z9,z10⟩:=zam HR9.out
   obtain ⟨n0,n1,n2,n3,n4,n5,n6,n7,n8,n9,n10⟩:=zam HR7.out
   obtain ⟨m0,m1,m2,m3,m4,m5,m6,m7,m8,m9,m10⟩:=zaL HR7.out
   go_wp2_with fail
   go_region
   have hT:=zdg HR7.out (.int .i64 i) (.int .u8 3) p.bx p.yb (.int .u8 0) (.int .i64 0) (.int .i64 0) (.int .u8 0) (.string ⟨#[]⟩) (.string ⟨#[]⟩) (.string ⟨#[]⟩)
   have hE:=zdh HX.out (show w.heap.size≤g+1+1 by have:=HP.out.low;omega) (.int .i64 i) (.int .u8 3) p.bx p.yb (.int .u8 0) (.int .i64 0) (.int .i64 0) (.int .u8 0) (.string ⟨#[]⟩) (.string ⟨#[]⟩) (.string ⟨#[]⟩)
   generalize ((SW.mk V (g+1+1) [.int .i64 i,.int .u8 3,p.bx,p.yb,.int .u8 0,.int .i64 0,.int .i64 0,.int .u8 0,.string ⟨#[]⟩,.string ⟨#[]⟩,.string ⟨#[]⟩]:World))=T at *
   clear z0 z1 z2 z3 z4 z5 z6 z7 z8 z9 z10 n0 n1 n2 n3 n4 n5 n6 n7 n8 n9 n10 m0 m1 m2 m3 m4 m5 m6 m7 m8 m9 m10
   go_wp2_with fail
   exact zbX rfl rfl rfl rfl (zaa (Ext.refl T).drew hT) ⟨rfl,hE.drew⟩
 ·have hsi:((p.st:Int) == 1)=false∨((p.st:Int) == 1)=true∧(p.ix == i)=false:=by
   by_cases h1:p.st=1
   ·exact .inr ⟨by rw [h1];rfl,by simp;exact fun h=>ho ⟨h1,h⟩⟩
   ·exact .inl (by simp;omega)
  have hcb:covB p f0 f1 i=true∨covB p f0 f1 i=false∧((p.st:Int) == 2)=true∧badL f0 f1:=by
   cases h:covB p f0 f1 i with
   | true=>exact .inl rfl
   | false =>
    rcases hb with h2 | h2
    ·rw [zdM.2 h2] at h;cases h
    ·exact .inr ⟨rfl,by rw [h2.1];rfl,h2.2⟩
  generalize covB p f0 f1 i=cv at *
  clear ho hb
  rcases hcb with rfl | ⟨rfl,k3,hbd⟩
  ·rcases hsi with e1 | ⟨e1,e2⟩ <;> rcases hbb with k1 | ⟨k1,k2⟩ | ⟨k1,k2⟩
   all_goals
    obtain ⟨c0,c1,c2,c3,c4⟩:=HP.out.rec_.cells
    obtain ⟨x0,_⟩:=HP.out.two.first
    obtain ⟨y0,_⟩:=HP.out.two.second
    obtain ⟨N,hN,hsz⟩:=zaz
    have hld:=zar hN HP.out.two
    have HN:=qj hN
    clear hN
    go_wp2_with fail
    refine (HB.out _).mono ?_
    rintro e w9 ⟨rfl,hx⟩
    have HP:=qj (HP.out.mono hx)
    clear hx c0 c1 c2 c3 c4 hld hsz x0 y0 z0 z1 z2 z3 z4 z5 z6 z7 z8 z9 z10 m0 m1 m2 m3 m4 m5 m6 m7 m8 m9 m10
    obtain ⟨c0,_⟩:=HP.out.rec_.cells
    obtain ⟨z0,z1,z2,z3,z4,z5,z6,z7,z8,z9,z10⟩:=zam HP.out.rep
    obtain ⟨m0,m1,m2,m3,m4,m5,m6,m7,m8,m9,m10⟩:=zaL HP.out.rep
    go_upto_region 15 with (fail)
    clear c0 e1 k1
    have r0:=zae (cs':=#[.int .i64 i,.int .u8 4,.int .i64 0,.int .i64 0,.int .u8 0,.int .i64 0,.int .i64 0,.int .u8 0,.string ⟨#[]⟩,.string ⟨#[]⟩,.string ⟨#[]⟩]) 1 (HP.out.rep) (.int .u8 4) rfl
    have HR9:=qj r0
    have hm:=zbt (g:=g+1+1+1) [.int .u8 4] w9 1
    have HR7:=qj (zah HP.out.res hm (by omega))
    have HX:=qj (zaK HP.out.ext (g:=g+1+1+1) (by have:=HP.out.low;omega) [.int .u8 4] 1)
    simp only [setL] at hm HR7 HX
    clear r0 hm
    generalize (w9.setCell (aD (g+1+1+1) 1) (.int .u8 4))=V at *
    clear z0 z1 z2 z3 z4 z5 z6 z7 z8 z9 z10 m0 m1 m2 m3 m4 m5 m6 m7 m8 m9 m10
    obtain ⟨z0,z1,z2,z3,z4,z5,z6,z7,z8,z9,z10⟩:=zam HR9.out
    obtain ⟨n0,n1,n2,n3,n4,n5,n6,n7,n8,n9,n10⟩:=zam HR7.out
    obtain ⟨m0,m1,m2,m3,m4,m5,m6,m7,m8,m9,m10⟩:=zaL HR7.out
    go_wp2_with fail
    go_region
    have hT:=zdg HR7.out (.int .i64 i) (.int .u8 4) (.int .i64 0) (.int .i64 0) (.int .u8 0) (.int .i64 0) (.int .i64 0) (.int .u8 0) (.string ⟨#[]⟩) (.string ⟨#[]⟩) (.string ⟨#[]⟩)
    have hE:=zdh HX.out (show w.heap.size≤g+1+1 by have:=HP.out.low;omega) (.int .i64 i) (.int .u8 4) (.int .i64 0) (.int .i64 0) (.int .u8 0) (.int .i64 0) (.int .i64 0) (.int .u8 0) (.string ⟨#[]⟩) (.string ⟨#[]⟩) (.string ⟨#[]⟩)
    generalize ((SW.mk V (g+1+1) [.int .i64 i,.int .u8 4,.int .i64 0,.int .i64 0,.int .u8 0,.int .i64 0,.int .i64 0,.int .u8 0,.string ⟨#[]⟩,.string ⟨#[]⟩,.string ⟨#[]⟩]:World))=T at *
    clear z0 z1 z2 z3 z4 z5 z6 z7 z8 z9 z10 n0 n1 n2 n3 n4 n5 n6 n7 n8 n9 n10 m0 m1 m2 m3 m4 m5 m6 m7 m8 m9 m10
    go_wp2_with fail
    exact zbX rfl rfl rfl rfl (zaa (Ext.refl T).drew hT) ⟨rfl,hE.drew⟩
  ·have hbb:((f0.st:Int) == 2)=true∨((f0.st:Int) == 2)=false∧((f1.st:Int) == 2)=true:=by
    rcases hbb with h | h | h
    ·exact .inl h
    ·exact .inr h
    ·exfalso
     rcases hbd with h2 | h2
     ·have:=h.1;rw [h2] at this;cases this
     ·have:=h.2;rw [h2] at this;cases this
   rcases hsi with e1 | ⟨e1,e2⟩ <;> rcases hbb with k1 | ⟨k1,k2⟩
   all_goals
    obtain ⟨c0,c1,c2,c3,c4⟩:=HP.out.rec_.cells
    obtain ⟨x0,_⟩:=HP.out.two.first
    obtain ⟨y0,_⟩:=HP.out.two.second
    obtain ⟨N,hN,hsz⟩:=zaz
    have hld:=zar hN HP.out.two
    have HN:=qj hN
    clear hN
    go_wp2_with fail
    refine (HB.out _).mono ?_
    rintro e w9 ⟨rfl,hx⟩
    have HP:=qj (HP.out.mono hx)
    clear hx c0 c1 c2 c3 c4 hld hsz x0 y0 z0 z1 z2 z3 z4 z5 z6 z7 z8 z9 z10 m0 m1 m2 m3 m4 m5 m6 m7 m8 m9 m10
    obtain ⟨c0,_⟩:=HP.out.rec_.cells
    obtain ⟨z0,z1,z2,z3,z4,z5,z6,z7,z8,z9,z10⟩:=zam HP.out.rep
    obtain ⟨m0,m1,m2,m3,m4,m5,m6,m7,m8,m9,m10⟩:=zaL HP.out.rep
    go_upto_region 15 with (fail)
    clear c0 e1 k1 k3
    have r0:=zae (cs':=#[.int .i64 i,.int .u8 4,.int .i64 0,.int .i64 0,.int .u8 0,.int .i64 0,.int .i64 0,.int .u8 0,.string ⟨#[]⟩,.string ⟨#[]⟩,.string ⟨#[]⟩]) 1 (HP.out.rep) (.int .u8 4) rfl
    have HR9:=qj r0
    have hm:=zbt (g:=g+1+1+1) [.int .u8 4] w9 1
    have HR7:=qj (zah HP.out.res hm (by omega))
    have HX:=qj (zaK HP.out.ext (g:=g+1+1+1) (by have:=HP.out.low;omega) [.int .u8 4] 1)
    simp only [setL] at hm HR7 HX
    clear r0 hm
    generalize (w9.setCell (aD (g+1+1+1) 1) (.int .u8 4))=V at *
    clear z0 z1 z2 z3 z4 z5 z6 z7 z8 z9 z10 m0 m1 m2 m3 m4 m5 m6 m7 m8 m9 m10
    obtain ⟨z0,z1,z2,z3,z4,z5,z6,z7,z8,z9,z10⟩:=zam HR9.out
    obtain ⟨n0,n1,n2,n3,n4,n5,n6,n7,n8,n9,n10⟩:=zam HR7.out
    obtain ⟨m0,m1,m2,m3,m4,m5,m6,m7,m8,m9,m10⟩:=zaL HR7.out
    go_wp2_with fail
    go_region
    have hT:=zdg HR7.out (.int .i64 i) (.int .u8 4) (.int .i64 0) (.int .i64 0) (.int .u8 0) (.int .i64 0) (.int .i64 0) (.int .u8 0) (.string ⟨#[]⟩) (.string ⟨#[]⟩) (.string ⟨#[]⟩)
    have hE:=zdh HX.out (show w.heap.size≤g+1+1 by have:=HP.out.low;omega) (.int .i64 i) (.int .u8 4) (.int .i64 0) (.int .i64 0) (.int .u8 0) (.int .i64 0) (.int .i64 0) (.int .u8 0) (.string ⟨#[]⟩) (.string ⟨#[]⟩) (.string ⟨#[]⟩)
    generalize ((SW.mk V (g+1+1) [.int .i64 i,.int .u8 4,.int .i64 0,.int .i64 0,.int .u8 0,.int .i64 0,.int .i64 0,.int .u8 0,.string ⟨#[]⟩,.string ⟨#[]⟩,.string ⟨#[]⟩]:World))=T at *
    clear z0 z1 z2 z3 z4 z5 z6 z7 z8 z9 z10 n0 n1 n2 n3 n4 n5 n6 n7 n8 n9 n10 m0 m1 m2 m3 m4 m5 m6 m7 m8 m9 m10
    go_wp2_with fail
    exact zbX rfl rfl rfl rfl (zaa (Ext.refl T).drew hT) ⟨rfl,hE.drew⟩
 ·have hsi:((p.st:Int) == 1)=false∨((p.st:Int) == 1)=true∧(p.ix == i)=false:=by
   by_cases h1:p.st=1
   ·exact .inr ⟨by rw [h1];rfl,by simp;exact fun h=>ho ⟨h1,h⟩⟩
   ·exact .inl (by simp;omega)
  have hcv:covB p f0 f1 i=false:=by
   cases h:covB p f0 f1 i with
   | true=>exact absurd (.inl (zdM.1 h)) hb
   | false=>rfl
  rw [hcv] at HB
  have hbs:badL f0 f1→((p.st:Int) == 2)=false:=fun h=>by simp;intro h2;exact hb (.inr ⟨by omega,h⟩)
  clear ho hb hcv
  by_cases hbd:badL f0 f1
  ·have hC2:C=1:=by rw [hC,if_pos hbd]
   subst hC2
   have k3:=hbs hbd
   have hbb:((f0.st:Int) == 2)=true∨((f0.st:Int) == 2)=false∧((f1.st:Int) == 2)=true:=by
    rcases hbb with h | h | h
    ·exact .inl h
    ·exact .inr h
    ·exfalso
     rcases hbd with h2 | h2
     ·have:=h.1;rw [h2] at this;cases this
     ·have:=h.2;rw [h2] at this;cases this
   clear hbs hC
   rcases hsi with e1 | ⟨e1,e2⟩ <;> rcases hbb with k1 | ⟨k1,k2⟩
   all_goals
    obtain ⟨c0,c1,c2,c3,c4⟩:=HP.out.rec_.cells
    obtain ⟨x0,_⟩:=HP.out.two.first
    obtain ⟨y0,_⟩:=HP.out.two.second
    obtain ⟨N,hN,hsz⟩:=zaz
    have hld:=zar hN HP.out.two
    have HN:=qj hN
    clear hN
    go_wp2_with fail
    refine (HB.out _).mono ?_
    rintro e w9 ⟨rfl,hx⟩
    have HP:=qj (HP.out.mono hx)
    clear hx c0 c1 c2 c3 c4 hld hsz x0 y0 z0 z1 z2 z3 z4 z5 z6 z7 z8 z9 z10 m0 m1 m2 m3 m4 m5 m6 m7 m8 m9 m10
    obtain ⟨c0,_⟩:=HP.out.rec_.cells
    obtain ⟨z0,z1,z2,z3,z4,z5,z6,z7,z8,z9,z10⟩:=zam HP.out.rep
    obtain ⟨m0,m1,m2,m3,m4,m5,m6,m7,m8,m9,m10⟩:=zaL HP.out.rep
    go_upto_region 18 with (fail)
    clear c0 e1 k1 k3
    have r0:=zae (cs':=#[.int .i64 i,.int .u8 1,.int .i64 0,.int .i64 0,.int .u8 0,.int .i64 0,.int .i64 0,.int .u8 0,.string ⟨#[]⟩,.string ⟨#[]⟩,.string ⟨#[]⟩]) 1 (HP.out.rep) (.int .u8 1) rfl
    have HR9:=qj r0
    have hm:=zbt (g:=g+1+1+1) [.int .u8 1] w9 1
    have HR7:=qj (zah HP.out.res hm (by omega))
    have HX:=qj (zaK HP.out.ext (g:=g+1+1+1) (by have:=HP.out.low;omega) [.int .u8 1] 1)
    simp only [setL] at hm HR7 HX
    clear r0 hm
    generalize (w9.setCell (aD (g+1+1+1) 1) (.int .u8 1))=V at *
    clear z0 z1 z2 z3 z4 z5 z6 z7 z8 z9 z10 m0 m1 m2 m3 m4 m5 m6 m7 m8 m9 m10
    obtain ⟨z0,z1,z2,z3,z4,z5,z6,z7,z8,z9,z10⟩:=zam HR9.out
    obtain ⟨n0,n1,n2,n3,n4,n5,n6,n7,n8,n9,n10⟩:=zam HR7.out
    obtain ⟨m0,m1,m2,m3,m4,m5,m6,m7,m8,m9,m10⟩:=zaL HR7.out
    go_wp2_with fail
    go_region
    have hT:=zdg HR7.out (.int .i64 i) (.int .u8 1) (.int .i64 0) (.int .i64 0) (.int .u8 0) (.int .i64 0) (.int .i64 0) (.int .u8 0) (.string ⟨#[]⟩) (.string ⟨#[]⟩) (.string ⟨#[]⟩)
    have hE:=zdh HX.out (show w.heap.size≤g+1+1 by have:=HP.out.low;omega) (.int .i64 i) (.int .u8 1) (.int .i64 0) (.int .i64 0) (.int .u8 0) (.int .i64 0) (.int .i64 0) (.int .u8 0) (.string ⟨#[]⟩) (.string ⟨#[]⟩) (.string ⟨#[]⟩)
    generalize ((SW.mk V (g+1+1) [.int .i64 i,.int .u8 1,.int .i64 0,.int .i64 0,.int .u8 0,.int .i64 0,.int .i64 0,.int .u8 0,.string ⟨#[]⟩,.string ⟨#[]⟩,.string ⟨#[]⟩]:World))=T at *
    clear z0 z1 z2 z3 z4 z5 z6 z7 z8 z9 z10 n0 n1 n2 n3 n4 n5 n6 n7 n8 n9 n10 m0 m1 m2 m3 m4 m5 m6 m7 m8 m9 m10
    go_wp2_with fail
    exact zbX rfl rfl rfl rfl (zaa (Ext.refl T).drew hT) ⟨rfl,hE.drew⟩
  ·have hC2:C=0:=by rw [hC,if_neg hbd]
   subst hC2
   have k1:((f0.st:Int) == 2)=false:=by simp;intro h;exact hbd (.inl (by omega))
   have k2:((f1.st:Int) == 2)=false:=by simp;intro h;exact hbd (.inr (by omega))
   clear hbs hC hbb
   rcases hsi with e1 | ⟨e1,e2⟩ <;> rcases (show ((p.st:Int) == 2)=false∨((p.st:Int) == 2)=true by cases ((p.st:Int) == 2) <;> simp) with k3 | k3
   all_goals
    obtain ⟨c0,c1,c2,c3,c4⟩:=HP.out.rec_.cells
    obtain ⟨x0,_⟩:=HP.out.two.first
    obtain ⟨y0,_⟩:=HP.out.two.second
    obtain ⟨N,hN,hsz⟩:=zaz
    have hld:=zar hN HP.out.two
    have HN:=qj hN
    clear hN
    go_wp2_with fail
    refine (HB.out _).mono ?_
    rintro e w9 ⟨rfl,hx⟩
    have HP:=qj (HP.out.mono hx)
    clear hx c0 c1 c2 c3 c4 hld hsz x0 y0 z0 z1 z2 z3 z4 z5 z6 z7 z8 z9 z10 m0 m1 m2 m3 m4 m5 m6 m7 m8 m9 m10
    obtain ⟨c0,_⟩:=HP.out.rec_.cells
    obtain ⟨z0,z1,z2,z3,z4,z5,z6,z7,z8,z9,z10⟩:=zam HP.out.rep
    obtain ⟨m0,m1,m2,m3,m4,m5,m6,m7,m8,m9,m10⟩:=zaL HP.out.rep
    go_upto_region 19 with (fail)
    clear c0 e1 k1 k3
    have r0:=zae (cs':=#[.int .i64 i,.int .u8 1,.int .i64 0,.int .i64 0,.int .u8 0,.int .i64 0,.int .i64 0,.int .u8 0,.string ⟨#[]⟩,.string ⟨#[]⟩,.string ⟨#[]⟩]) 1 (HP.out.rep) (.int .u8 1) rfl
    have HR9:=qj r0
    have hm:=zbt (g:=g+1+1+1) [.int .u8 1] w9 1
    have HR7:=qj (zah HP.out.res hm (by omega))
    have HX:=qj (zaK HP.out.ext (g:=g+1+1+1) (by have:=HP.out.low;omega) [.int .u8 1] 1)
    simp only [setL] at hm HR7 HX
    clear r0 hm
    generalize (w9.setCell (aD (g+1+1+1) 1) (.int .u8 1))=V at *
    clear z0 z1 z2 z3 z4 z5 z6 z7 z8 z9 z10 m0 m1 m2 m3 m4 m5 m6 m7 m8 m9 m10
    obtain ⟨z0,z1,z2,z3,z4,z5,z6,z7,z8,z9,z10⟩:=zam HR9.out
    obtain ⟨n0,n1,n2,n3,n4,n5,n6,n7,n8,n9,n10⟩:=zam HR7.out
    obtain ⟨m0,m1,m2,m3,m4,m5,m6,m7,m8,m9,m10⟩:=zaL HR7.out
    go_wp2_with fail
    go_region
    have hT:=zdg HR7.out (.int .i64 i) (.int .u8 1) (.int .i64 0) (.int .i64 0) (.int .u8 0) (.int .i64 0) (.int .i64 0) (.int .u8 0) (.string ⟨#[]⟩) (.string ⟨#[]⟩) (.string ⟨#[]⟩)
    have hE:=zdh HX.out (show w.heap.size≤g+1+1 by have:=HP.out.low;omega) (.int .i64 i) (.int .u8 1) (.int .i64 0) (.int .i64 0) (.int .u8 0) (.int .i64 0) (.int .i64 0) (.int .u8 0) (.string ⟨#[]⟩) (.string ⟨#[]⟩) (.string ⟨#[]⟩)
    generalize ((SW.mk V (g+1+1) [.int .i64 i,.int .u8 1,.int .i64 0,.int .i64 0,.int .u8 0,.int .i64 0,.int .i64 0,.int .u8 0,.string ⟨#[]⟩,.string ⟨#[]⟩,.string ⟨#[]⟩]:World))=T at *
    clear z0 z1 z2 z3 z4 z5 z6 z7 z8 z9 z10 n0 n1 n2 n3 n4 n5 n6 n7 n8 n9 n10 m0 m1 m2 m3 m4 m5 m6 m7 m8 m9 m10
    go_wp2_with fail
    exact zbX rfl rfl rfl rfl (zaa (Ext.refl T).drew hT) ⟨rfl,hE.drew⟩
def zql (a b:List Nat):List Nat:=if a=[]∨b=[] then [] else a++b
def recQ (r q:Int) (x:List Nat):Rec :=
 if stM x r 3 q=1 then (match recR (mbl x r 3 q) with | some (a,b,h)=>{ st:=1,ix:=(mfl x r 3 q 3:Nat),bx:=(a:Nat),yb:=(b:Nat),wh:=(h:Nat) } | none=>{ st:=2 }) else { st:=stM x r 3 q }
def copQ (r p:Int) (x:List Nat):CopL :=
 if stM x r 4 p=1 then (match bdR (mbl x r 4 p) with | some (a,b,e)=>{ st:=1,ix:=(mfl x r 4 p 3:Nat),bx:=(a:Nat),yb:=(b:Nat),e:=e } | none=>{ st:=2 }) else { st:=stM x r 4 p }
def DM.recM (m:DM) (r q:Int):Rec:=recQ r q (m.cb 3 q)
def DM.fb (m:DM) (p:Int):List Nat:=zql (m.read (zai 4 p)).1 (m.read (zai 4 p+1)).1
def DM.copM (m:DM) (r p:Int):CopL:=copQ r p (m.fb p)
def DM.put2C (m:DM) (s:Int) (L:List Nat):Int × DM :=
 if (m.write s (L.take 64)).1≠0 then m.write s (L.take 64) else
  if ((m.write s (L.take 64)).2.write (s+1) (L.drop 64)).1≠0 then (m.write s (L.take 64)).2.write (s+1) (L.drop 64) else ((m.write s (L.take 64)).2.write (s+1) (L.drop 64)).2.flush
def frmW (r inc i:Int) (p x y:Int) (e:Ent):List Nat:=sealL r 4 p i inc (zbb x y e) 2
def recW (r inc i:Int) (q x y k:Int):List Nat:=sealL r 3 q i inc (recL x y k) 1
def DM.putK (m:DM) (r inc i q k x y:Int) (e:Ent):Int × DM :=
 if (m.put2C (zai 4 (2 * q+k)) (frmW r inc i (2 * q+k) x y e)).1≠0 then m.put2C (zai 4 (2 * q+k)) (frmW r inc i (2 * q+k) x y e) else
  (m.put2C (zai 4 (2 * q+k)) (frmW r inc i (2 * q+k) x y e)).2.putC (zai 3 q) (recW r inc i q x y k)
def zax (i:Int):Int:=(i-1)%24
def DM.nextW (m:DM) (r i:Int):Int:=nextL (m.recM r (zax i)) (m.copM r (2 * zax i)) (m.copM r (2 * zax i+1)) i
def DM.putW (m:DM) (r inc i x y:Int) (e:Ent):Int × DM:=m.putK r inc i (zax i) (m.nextW r i) x y e
def sR (q:Nat):Nat:=4+q
def sF (p:Nat):Nat:=28+2 * p
theorem zjY {q:Nat} (h:q<24):zai 3 (q:Int)=(sR q:Nat):=by
 unfold zai sR
 rw [if_pos (by simp [plc];omega)]
 simp [beg,wid]
theorem zjw {p:Nat} (h:p<48):zai 4 (p:Int)=(sF p:Nat):=by
 unfold zai sF
 rw [if_pos (by simp [plc];omega)]
 simp [beg,wid]
 omega
theorem zcT {i:Int}:∃q:Nat,zax i=(q:Int)∧q<24:=by
 unfold zax
 exact ⟨((i-1)%24).toNat,by omega,by omega⟩
theorem zrZ (r g p:Int):stM [] r g p=2:=by
 have hz:szB []=false:=by decide
 rw [(zeh (zfo hz)).1]
 exact zhV hz
theorem zsL (r q:Int) (x:List Nat):(recQ r q x).st≤2:=by
 unfold recQ
 split
 ·split <;> simp
 ·simp only
  unfold stM stN
  (repeat' split) <;> omega
theorem zsY (r q:Int) (x:List Nat):(copQ r q x).st≤2:=by
 unfold copQ
 split
 ·split <;> simp
 ·simp only
  unfold stM stN
  (repeat' split) <;> omega
theorem zgA (r q:Int) (x:List Nat):(recQ r q x).wh=0∨(recQ r q x).wh=1:=by
 unfold recQ
 split
 ·split
  ·rename_i h
   have:=(znV h).2.1
   simp only
   omega
  ·exact .inl rfl
 ·exact .inl rfl
theorem zmr {r inc i q x y k:Int} (hm:mayB r 3 q i inc=true):sealE r 3 q i inc (recL x y k).length 1=0:=zbD (by decide) hm (by rw [zcZ,zpp];omega)
theorem zmj {r inc i p x y:Int} {e:Ent} (hm:mayB r 4 p i inc=true) (he:enOk e=true):sealE r 4 p i inc (zbb x y e).length 2=0:=zbD (by decide) hm (by have:=znR (x:=x) (y:=y) he;rw [zpd];omega)
structure LogAt (w:World) (g d:Nat) (r inc:Int) (s:Nat):Prop where
 row:w.heap[g]?=some (.cells #[.pointer (some ⟨g,0,none⟩),.pointer (some ⟨d,0,none⟩),.int .i64 r,.int .i64 inc,.int .i64 (s:Int)] 83 (0,0))
theorem LogAt.lt {w:World} {g d s:Nat} {r inc:Int} (h:LogAt w g d r inc s):g<w.heap.size:=(Array.getElem?_eq_some_iff.1 h.row).1
theorem LogAt.cells {w:World} {g d s:Nat} {r inc:Int} (h:LogAt w g d r inc s):(CW.mk w g [aD g 0,aD d 0,r,inc,.int .i64 s]:Prop) :=
 ⟨cell_of_row w g 0 _ _ _ h.row,cell_of_row w g 1 _ _ _ h.row,cell_of_row w g 2 _ _ _ h.row,cell_of_row w g 3 _ _ _ h.row,cell_of_row w g 4 _ _ _ h.row⟩
theorem LogAt.ext {w w':World} {g d s:Nat} {r inc:Int} (h:LogAt w g d r inc s) (hx:Ext w w'):LogAt w' g d r inc s:=⟨(hx.block _ h.lt).trans h.row⟩
theorem LogAt.mod {w w':World} {F:Nat→Prop} {g d s:Nat} {r inc:Int} (h:LogAt w g d r inc s) (hm:Mod F w w') (hF:¬F g):LogAt w' g d r inc s:=⟨(hm.block g h.lt hF).trans h.row⟩
theorem zoE (a:Addr) (w:World):(binOp .eql 31 (.pointer (some a)) (.pointer (some a))).run Tryz.prog w=.ok (.bool true) w:=by
 have hi:(Tryz.prog.info? 83).isSome=true:=by kernel_rfl
 obtain ⟨j,hj⟩:=Option.isSome_iff_exists.1 hi
 exact run_eql_ptr_same w a Tryz.underlying31 hj
theorem zeC (g:Nat) (w:World) (h:w.cell? (aD g 0)=some (.pointer (some ⟨g,0,none⟩))) :
 (cQ 43 #[aD g 0] w (.bool true):Prop):=by
 have he:=zoE
 go_enter Tryz.func43,Tryz.ntmps43
 go_wp2
 go_ret
 exact ⟨rfl,rfl⟩
theorem wrap_i64 {x:Int} (h1:-9223372036854775808≤x) (h2:x≤9223372036854775807):IntKind.i64.wrap x=x:=IntWalk.i64_in _ (by omega)
def inI (a b c:Int):Bool:=decide (a≤b) && decide (b≤c)
theorem zaA (a b c:Int) (w:World):(cQ 24 #[a,b,c] w (.bool (inI a b c)):Prop):=by
 by_cases h:a≤b
 ·have hi:inI a b c=decide (b≤c):=by unfold inI;rw [decide_eq_true h,Bool.true_and]
  rw [hi]
  clear hi
  go_enter Tryz.func24,Tryz.ntmps24
  go_wp2_with fail
  go_ret
  exact ⟨rfl,rfl⟩
 ·have hi:inI a b c=false:=by unfold inI;rw [decide_eq_false h,Bool.false_and]
  rw [hi]
  clear hi
  go_enter Tryz.func24,Tryz.ntmps24
  go_wp2_with fail
  go_ret
  exact ⟨rfl,rfl⟩
def zdK (s:Nat) (i:Int):Int:=if (s:Int)+1≤i∧i≤(s:Int)+24 then 0 else 2
theorem zfN {w:World} {g d s:Nat} {r inc:Int} (h:LogAt w g d r inc s) (hs:s≤2000000000000) (i:Int) :
 (cL 29 #[aD g 0,.int .i64 i] w (.int .i64 (zdK s i)):Prop):=by
 obtain ⟨c0,c1,c2,c3,c4⟩:=h.cells
 have HM:=qj (zeC g w c0)
 clear h c0 c1 c2 c3
 obtain ⟨b,hb⟩:∃b,inI ((s:Int)+1) i ((s:Int)+24)=b:=⟨_,rfl⟩
 have HW:Hid (∀V,(cQ 24 #[.int .i64 (IntKind.i64.wrap ((s:Int)+1)),.int .i64 i,.int .i64 (IntKind.i64.wrap ((s:Int)+24))] V (.bool b):Prop)):=qj (fun V=>by rw [wrap_i64 (by omega) (by omega),wrap_i64 (by omega) (by omega),←hb];exact zaA _ _ _ V)
 have HE:Hid (zdK s i=if b=true then 0 else 2):=qj (by
  unfold zdK
  rw [←hb]
  unfold inI
  simp)
 clear hb
 cases b with
 | true =>
  rw [HE.out]
  go_enter Tryz.func29,Tryz.ntmps29
  go_wp2_with fail
  refine HM.out.mono ?_
  rintro e w1 ⟨rfl,rfl⟩
  go_wp2_with fail
  go_region_held3 (fun w'=>w'.cell? (aD g 4)=some (.int .i64 (s:Int)))
   (first | with_reducible exact c4 | assumption | go_keep)
   (first | (go_at_call 24;((with_reducible refine (HW.out _).mono ?_);rintro e w1 ⟨rfl,rfl⟩)))
  go_wp2_with fail
  go_ret
  exact ⟨rfl,Below.drew (Ext.refl w)⟩
 | false =>
  rw [HE.out]
  go_enter Tryz.func29,Tryz.ntmps29
  go_wp2_with fail
  refine HM.out.mono ?_
  rintro e w1 ⟨rfl,rfl⟩
  go_wp2_with fail
  go_region_held3 (fun w'=>w'.cell? (aD g 4)=some (.int .i64 (s:Int)))
   (first | with_reducible exact c4 | assumption | go_keep)
   (first | (go_at_call 24;((with_reducible refine (HW.out _).mono ?_);rintro e w1 ⟨rfl,rfl⟩)))
  go_wp2_with fail
  go_ret
  exact ⟨rfl,Below.drew (Ext.refl w)⟩
def upE (m:DM):Int:=if m.up=true then 0 else 5
theorem zcp {w:World} {g d s:Nat} {r inc:Int} {F:Nat→Prop} {m:DM} (h:LogAt w g d r inc s) (hd:zao w d F m) :
 (cQ 30 #[aD g 0] w (.int .i64 (upE m)):Prop):=by
 obtain ⟨c0,c1,c2,c3,c4⟩:=h.cells
 have HM:=qj (zeC g w c0)
 have hu:=zqN hd
 obtain ⟨b,hb⟩:∃b,m.up=b:=⟨_,rfl⟩
 rw [hb] at hu
 have HU:=qj hu
 have HE:Hid (upE m=if b=true then 0 else 5):=qj (by unfold upE;rw [hb])
 clear h hd hu c0 c2 c3 c4 hb
 cases b with
 | true =>
  rw [HE.out]
  go_enter Tryz.func30,Tryz.ntmps30
  go_wp2_with fail
  refine HM.out.mono ?_
  rintro e w1 ⟨rfl,rfl⟩
  go_wp2_with fail
  refine HU.out.mono ?_
  rintro e w1 ⟨rfl,rfl⟩
  go_wp2_with fail
  go_ret
  exact ⟨rfl,rfl⟩
 | false =>
  rw [HE.out]
  go_enter Tryz.func30,Tryz.ntmps30
  go_wp2_with fail
  refine HM.out.mono ?_
  rintro e w1 ⟨rfl,rfl⟩
  go_wp2_with fail
  refine HU.out.mono ?_
  rintro e w1 ⟨rfl,rfl⟩
  go_wp2_with fail
  go_ret
  exact ⟨rfl,rfl⟩
theorem zqf {w:World} {g d s:Nat} {r inc:Int} (h:LogAt w g d r inc s) :
 (cQ 13 #[aD g 0] w (.int .i64 (s:Int)):Prop):=by
 obtain ⟨c0,c1,c2,c3,c4⟩:=h.cells
 have HM:=qj (zeC g w c0)
 clear h c0 c1 c2 c3
 go_enter Tryz.func13,Tryz.ntmps13
 go_wp2_with fail
 refine HM.out.mono ?_
 rintro e w1 ⟨rfl,rfl⟩
 go_wp2_with fail
 go_ret
 exact ⟨rfl,rfl⟩
def cutB (s:Nat) (n:Int):Bool:=inI s n 1099511627752
theorem ztj {w:World} {g d s:Nat} {r inc:Int} (h:LogAt w g d r inc s) (n:Int) :
 Calls Tryz.prog 11 #[aD g 0,.int .i64 n] w fun e w'=>e=.returned (.int .i64 (if cutB s n=true then 0 else 2))∧LogAt w' g d r inc (if cutB s n=true then n.toNat else s)∧Mod (fun k=>k=g) w w':=by
 obtain ⟨c0,c1,c2,c3,c4⟩:=h.cells
 have hf:=frozen_of_row w g 4 _ _ h.row
 have HM:=qj (zeC g w c0)
 have H:=qj h
 have HW:=qj (zaA (s:Int) n 1099511627752 w)
 have HC:Hid (inI (s:Int) n 1099511627752=cutB s n):=qj rfl
 rw [HC.out] at HW
 have HN:Hid (cutB s n=true→n=(n.toNat:Int)):=qj fun hc=>by
  unfold cutB inI at hc
  simp at hc
  omega
 clear h c0 c1 c2 c3
 obtain ⟨b,hb⟩:∃b,cutB s n=b:=⟨_,rfl⟩
 rw [hb] at HW HN ⊢
 clear hb HC
 cases b with
 | true =>
  go_enter Tryz.func11,Tryz.ntmps11
  go_wp2_with fail
  refine HM.out.mono ?_
  rintro e w1 ⟨rfl,rfl⟩
  go_wp2_with fail
  refine HW.out.mono ?_
  rintro e w1 ⟨rfl,rfl⟩
  go_wp2_with fail
  go_ret
  refine ⟨rfl,⟨?_⟩,(Mod.refl (fun k=>k=g) w).setCell (p:=⟨g,4,none⟩) (.inl rfl) _⟩
  have:=zae (cs':=#[aD g 0,aD d 0,r,inc,.int .i64 n]) 4 H.out.row (.int .i64 n) rfl
  rw [←HN.out trivial]
  exact this
 | false =>
  go_enter Tryz.func11,Tryz.ntmps11
  go_wp2_with fail
  refine HM.out.mono ?_
  rintro e w1 ⟨rfl,rfl⟩
  go_wp2_with fail
  refine HW.out.mono ?_
  rintro e w1 ⟨rfl,rfl⟩
  go_wp2_with fail
  go_ret
  exact ⟨rfl,H.out,Mod.refl _ w⟩
theorem zcK (i:Nat) (h1:1≤i) (h2:i≤2000000000000) (w:World):(cQ 36 #[.int .i64 i] w (.int .i64 (zax (i:Int))):Prop):=by
 have h3:zax (i:Int)=(((i-1)%24:Nat):Int):=by unfold zax;omega
 obtain ⟨k,rfl⟩:∃k,i=k+1:=⟨i-1,by omega⟩
 rw [h3]
 go_enter Tryz.func36,Tryz.ntmps36
 go_wp2_with fail
 go_ret
 refine ⟨?_,rfl⟩
 congr 2
theorem zdf (i:Nat) (k:Int) (hk:k=0∨k=1) (h1:1≤i) (h2:i≤2000000000000) (w:World):(cQ 35 #[.int .i64 i,.int .i64 k] w (.int .i64 (2 * zax (i:Int)+k)):Prop):=by
 have HP:=qj (zcK i h1 h2 w)
 obtain ⟨q,hq,hq24⟩:=zcT (i:=(i:Int))
 rw [hq] at HP ⊢
 clear h1 h2 hq
 rcases hk with rfl | rfl
 ·go_enter Tryz.func35,Tryz.ntmps35
  go_wp2_with fail
  refine HP.out.mono ?_
  rintro e w1 ⟨rfl,rfl⟩
  go_wp2_with fail
  go_ret
  refine ⟨?_,rfl⟩
  congr 2
 ·go_enter Tryz.func35,Tryz.ntmps35
  go_wp2_with fail
  refine HP.out.mono ?_
  rintro e w1 ⟨rfl,rfl⟩
  go_wp2_with fail
  go_ret
  refine ⟨?_,rfl⟩
  congr 2
end Go.Proofs.YtdbpdhlecgoclaaGreatDoor
