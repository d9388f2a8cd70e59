/-
  The contract of the disk's Read.
-/
import Derived.Test.YtdbpdhlecgoclaaGreatDoorP00
import Derived.Test.YtdbpdhlecgoclaaGreatDoorP01
import Derived.Test.YtdbpdhlecgoclaaGreatDoorP03
import Derived.Laws.CopyOwn
import Derived.Deep.AppendLies
import Derived.Lib.SmallJoins
import Derived.Laws.BitsAllLaws
namespace Go.Proofs.YtdbpdhlecgoclaaGreatDoor
set_option maxRecDepth 100000
set_option maxHeartbeats 6400000
open Go Go.RowKit
section
open Go Go.RowKit Go.Shelf
attribute [local go_sem] Oper.semAt_some
theorem zda {f:FuncId} {fn:Func} {c:Code} {args:Array Value} {w:World} {R:Ending→World→Prop} (hf:Tryz.prog.funcs[f]?=some fn) (hb:fn.body=some c)
 (h:c.wp Tryz.prog (bodyPostM Fence.wide 9 Tryz.prog fn R) { tmps:=args++Array.replicate (fn.ntmps-args.size) undef,defers:=[] } w):Calls Tryz.prog f args w R :=
 (callsIn_wide (n:=9)).1 (callsIn_of_wp_marks hf hb trivial (wpIn_wide.2 h) rfl)
theorem ztX {fn:Func} {R:Ending→World→Prop} {a:Act} {w:World} {v:Value} (hd:a.defers=[]) (hr:(results fn a.tmps).run Tryz.prog w=.ok v w) (hR:R (.returned v) w):bodyPostM Fence.wide 9 Tryz.prog fn R .ret a w:=by
 show LeavesInM Fence.wide 9 Tryz.prog fn a.tmps R a.defers .returning w
 rw [hd]
 exact ⟨v,hr,hR⟩
theorem ztO {fn:Func} {R:Ending→World→Prop} {a:Act} {w:World} {v:Value} {D:Nat} (hd:a.defers=[{ target:=.collected D,args:=#[] }]) (hK:w.heap[D]?=some (.deferred (some [])))
 (hr:(results fn a.tmps).run Tryz.prog (w.putObj D (.deferred none))=.ok v (w.putObj D (.deferred none))) (hR:R (.returned v) (w.putObj D (.deferred none))):bodyPostM Fence.wide 9 Tryz.prog fn R .ret a w:=by
 show LeavesInM Fence.wide 9 Tryz.prog fn a.tmps R a.defers .returning w
 rw [hd]
 exact ⟨by simp,.inl ⟨_,_,rfl,run_takeDeferred hK,v,hr,hR⟩⟩
theorem ztE (w:World):(isAgg 156).run Tryz.prog w=.ok true w:=by
 unfold isAgg
 rw [Sem.run_bind,run_underlying Tryz.underlying156 w]
 rfl
theorem zrr:∃N,N=64∧∀w,(sizeOf 156).run Tryz.prog w=.ok N w:=⟨64,rfl,fun w=>by
 have h:=zeX
 cases hq:Tryz.prog.info? 156 with
 | none=>simp [hq] at h
 | some i=>simp [hq] at h;simp [sizeOf,typeInfo,hq,h]⟩
theorem zhZ (l:List (Nat × List Nat)) (s:Nat):zbh l s=(l.reverse.find? (fun x=>decide (x.1=s))).map (fun x=>x.2):=by
 induction l with
 | nil=>rfl
 | cons x l ih =>
  show (zbh l s).or (if x.1=s then some x.2 else none)=_
  rw [List.reverse_cons,List.find?_append,ih]
  cases h:l.reverse.find? (fun x=>decide (x.1=s)) with
  | some y=>rfl
  | none =>
   by_cases hx:x.1=s <;> simp [hx]
theorem zmp {l:List (Nat × List Nat)} {ini:List WI} {x:WI} {s j:Nat} (h:(ini++[x]).map (fun p=>p.2.1)=l.reverse.take j) (h2:∀y∈ini,y.2.1.1≠s) (h3:x.2.1.1=s):zbh l s=some x.2.1.2:=by
 rw [zhZ,←List.take_append_drop j l.reverse,←h,List.map_append,List.find?_append,List.find?_append]
 have e:(ini.map fun p=>p.2.1).find? (fun x=>decide (x.1=s))=none:=by
  rw [List.find?_eq_none]
  intro y hy
  obtain ⟨z,hz,rfl⟩:=List.mem_map.1 hy
  simpa using h2 z hz
 rw [e]
 simp [h3]
theorem zmH {l:List (Nat × List Nat)} {ys:List WI} {s:Nat} (h:ys.map (fun p=>p.2.1)=l.reverse) (h2:∀y∈ys,y.2.1.1≠s):zbh l s=none:=by
 rw [zhZ,←h]
 have e:(ys.map fun p=>p.2.1).find? (fun x=>decide (x.1=s))=none:=by
  rw [List.find?_eq_none]
  intro y hy
  obtain ⟨z,hz,rfl⟩:=List.mem_map.1 hy
  simpa using h2 z hz
 rw [e]
 rfl
theorem zmR {b:Nat} {W:World} {a:Act} {D:Nat} {A:Option Addr} {n:Nat} {E:Int} {R:Ending→World→Prop} (h4:a.tmps.getD 4 undef=.pointer (some ⟨b+1,0,none⟩)) (h5:a.tmps.getD 5 undef=.pointer (some ⟨b+1+1,0,none⟩))
 (hd:a.defers=[{ target:=.collected D,args:=#[] }]) (hK:W.heap[D]?=some (.deferred (some []))) (c1:W.cell? (aD (b+1) 0)=some (.slice A n n)) (c2:W.cell? (aD (b+1+1) 0)=some (.int .i64 E))
 (hR:R (.returned (.tuple #[.slice A n n,E])) (W.putObj D (.deferred none))):bodyPostM Fence.wide 9 Tryz.prog Tryz.f152 R .ret a W:=by
 refine ztO (v:=.tuple #[.slice A n n,E]) hd hK ?_ hR
 have k1:=cell_kept c1 (grownBy_putObj' _ D (.deferred none)) (fun r e=>by cases e;exact ⟨_,hK,rfl⟩)
 have k2:=cell_kept c2 (grownBy_putObj' _ D (.deferred none)) (fun r e=>by cases e;exact ⟨_,hK,rfl⟩)
 have h4':a.tmps[4]?.getD undef=.pointer (some ⟨b+1,0,none⟩):=by simpa using h4
 have h5':a.tmps[5]?.getD undef=.pointer (some ⟨b+1+1,0,none⟩):=by simpa using h5
 simp [results,Tryz.results152,go_sem,h4',h5',k1,k2]
theorem zjv {w W:World} {D:Nat} (h:Ext w W) (hD:w.heap.size≤D) (hK:W.heap[D]?=some (.deferred (some []))):Ext w (W.putObj D (.deferred none)) :=
 Below.trans h (belowK_b (w:=w) (Nat.le_refl _) W D _ _ hD hK rfl rfl)
theorem ztl {m:DM} (s:Int) (h:m.up=false):m.read s=([],5):=by unfold DM.read;rw [if_pos h]
theorem zqJ {m:DM} (s:Int) (h:¬m.up=false) (h2:m.has s=false):m.read s=([],2):=by unfold DM.read;rw [if_neg h,if_pos h2]
theorem zrO {m:DM} (k:Nat) (h:¬m.up=false) (h2:¬m.has (k:Int)=false) {b:List Nat} (h3:zbh m.waits k=some b):m.read (k:Int)=(b,0):=by
 unfold DM.read
 rw [if_neg h,if_neg h2,Int.toNat_natCast,h3]
theorem znY {m:DM} (k:Nat) (h:¬m.up=false) (h2:¬m.has (k:Int)=false) (h3:zbh m.waits k=none):m.read (k:Int)=if m.lost.getD k false=true then ([],50) else (m.rest.getD k [],0):=by
 unfold DM.read
 rw [if_neg h,if_neg h2,Int.toNat_natCast,h3]
def rdW (w:World) (s:Int):World:=(((w.alloc (.cells #[.int .i64 s] 3)).alloc (.cells #[.slice none 0 0] 45)).alloc (.cells #[.int .i64 0] 25)).alloc (.cells #[.int .i64 s] 3)
theorem zqV (w:World) (s:Int):Ext w (rdW w s):=((((Ext.refl w).alloc _).alloc _).alloc _).alloc _
theorem zqg {w:World} {d g:Nat} {pv:Value} {m:DM} (h:PD w d g pv m) (s:Int) :
 Calls Tryz.prog 58 #[aD d 0,.slice (some ⟨w.heap.size+1+1+1,0,none⟩) 1 1] (rdW w s) fun e w'=>e=.returned (.int .i64 (if m.up=false then 5 else if m.has s=false then 2 else 0))∧rdW w s=w':=by
 have hz:=ZsAt.one (((w.alloc (.cells #[.int .i64 s] 3)).alloc (.cells #[.slice none 0 0] 45)).alloc (.cells #[.int .i64 0] 25)) s 3
 simp only [World.size_alloc] at hz
 have hk:=zcR (h.ext (zqV w s)) _ 1 1 [s] hz
 rwa [show runE m [s]=if m.up=false then 5 else if m.has s=false then 2 else 0 by unfold runE;rw [zeF]] at hk
theorem zkh {w:World} {d g:Nat} {pv:Value} {m:DM} (h:PD w d g pv m) (s:Int) (E:Int) (hE:E≠0) (hr:m.read s=([],E)) (hrun:(if m.up=false then 5 else if m.has s=false then 2 else 0)=E) :
 Calls Tryz.prog 152 #[aD d 0,.int .i64 s] w fun e w'=>∃A n,e=.returned (.tuple #[.slice A n n,.int .i64 (m.read s).2])∧New w.heap.size w' A n (m.read s).1∧Ext w w':=by
 have hk:=zqg h s
 rw [hrun] at hk
 have HK:=qj hk
 have HR:=qj hr
 have hne:(E != 0)=true:=by simpa using hE
 unfold rdW at HK
 clear h hk hr hrun hE
 refine zda Tryz.func152 rfl ?_
 simp only [Tryz.ntmps152,List.size_toArray,List.length_cons,List.length_nil,Nat.reduceAdd,Nat.reduceSub,Array.replicate_succ,Array.replicate_zero,List.push_toArray,List.append_toArray,List.nil_append,List.cons_append]
 go_wp2_with fail
 refine HK.out.mono ?_
 rintro e w1 ⟨rfl,rfl⟩
 go_wp2_with fail
 refine ztX (v:=.tuple #[.slice none 0 0,.int .i64 E]) rfl ?_ ?_
 ·simp [results,Tryz.results152,go_sem]
 ·exact ⟨none,0,by rw [HR.out],by rw [HR.out];exact New.none_ _ _,((((Ext.refl w).alloc _).alloc _).alloc _).alloc _⟩
theorem ztv {w:World} {d g:Nat} {pv:Value} {m:DM} (h:PD w d g pv m) (k:Nat) (hfew:m.waits.length≤1000000) (hu:¬m.up=false) (hh:¬m.has (k:Int)=false) :
 Calls Tryz.prog 152 #[.pointer (some ⟨d,0,none⟩),.int .i64 (k:Int)] w fun e w'=>∃A n,e=.returned (.tuple #[.slice A n n,.int .i64 (m.read (k:Int)).2])∧New w.heap.size w' A n (m.read (k:Int)).1∧Ext w w':=by
 have hk:=zqg h (k:Int)
 rw [if_neg hu,if_neg hh] at hk
 have HK:=qj hk
 have H:=qj h
 have HU:=qj hu
 have HH:=qj hh
 unfold rdW at HK
 have b0:(rdW w (k:Int)).cell? ⟨w.heap.size,0,none⟩=some (.int .i64 (k:Int)):=by
  unfold rdW
  simp [go_sem]
 have b1:(rdW w (k:Int)).heap[w.heap.size+1]?=some (.cells #[.slice none 0 0] 45 (0,0)):=by
  have h0:=heap_alloc_last (w.alloc (.cells #[.int .i64 (k:Int)] 3)) (.cells #[.slice none 0 0] 45)
  rw [World.size_alloc] at h0
  exact (Below.heap_alloc _ _ _ (by simp)).trans ((Below.heap_alloc _ _ _ (by simp)).trans h0)
 have b2:(rdW w (k:Int)).heap[w.heap.size+1+1]?=some (.cells #[.int .i64 0] 25 (0,0)):=by
  have h0:=heap_alloc_last ((w.alloc (.cells #[.int .i64 (k:Int)] 3)).alloc (.cells #[.slice none 0 0] 45)) (.cells #[.int .i64 0] 25)
  rw [World.size_alloc,World.size_alloc] at h0
  exact (Below.heap_alloc _ _ _ (by simp)).trans h0
 have hX:=zqV w (k:Int)
 have h1:=h.ext hX
 obtain ⟨⟨_,_,_,_,c4⟩,_⟩:=h1.cells
 obtain ⟨A,c,hpv,_,_⟩:=h.pv_form
 subst hpv
 have HB0:=qj b0
 have HB1:=qj b1
 have HB2:=qj b2
 have HX:=qj hX
 have H1:=qj h1
 have hsz1:w.heap.size+1+1+1<(rdW w (k:Int)).heap.size:=by unfold rdW;simp
 clear h hk hu hh b0 b1 b2 hX h1
 unfold rdW at *
 refine zda Tryz.func152 rfl ?_
 simp only [Tryz.ntmps152,List.size_toArray,List.length_cons,List.length_nil,Nat.reduceAdd,Nat.reduceSub,Array.replicate_succ,Array.replicate_zero,List.push_toArray,List.append_toArray,List.nil_append,List.cons_append]
 go_wp2_with fail
 refine HK.out.mono ?_
 rintro e w1 ⟨rfl,rfl⟩
 generalize (((w.alloc (.cells #[.int .i64 (k:Int)] 3)).alloc (.cells #[.slice none 0 0] 45)).alloc (.cells #[.int .i64 0] 25)).alloc (.cells #[.int .i64 (k:Int)] 3)=W1 at *
 go_wp2_with fail
 refine (zsS A m.waits.length c _).mono ?_
 rintro e w2 ⟨rfl,rfl⟩
 go_wp2_with fail
 have hBs0:(W1.alloc (.cells #[.slice A m.waits.length c] 77)).cell? ⟨W1.heap.size,0,none⟩=some (.slice A m.waits.length c):=by rw [World.cell?_alloc_new];rfl
 have hE2:=(Ext.refl W1).alloc (.cells #[.slice A m.waits.length c] 77)
 have HE2:=qj hE2
 have HX2:=qj (HX.out.trans hE2)
 have H2:=qj (H1.out.ext hE2)
 have e0:Hid ((W1.alloc (.cells #[.slice A m.waits.length c] 77)).cell? ⟨w.heap.size,0,none⟩=some (.int .i64 (k:Int))):=qj ((hE2.cell (p:=⟨w.heap.size,0,none⟩) (show w.heap.size<W1.heap.size by omega)).trans HB0.out)
 have e1:Hid ((W1.alloc (.cells #[.slice A m.waits.length c] 77)).heap[w.heap.size+1]?=some (.cells #[.slice none 0 0] 45 (0,0))):=qj ((hE2.block _ (by omega)).trans HB1.out)
 have e2:Hid ((W1.alloc (.cells #[.slice A m.waits.length c] 77)).heap[w.heap.size+1+1]?=some (.cells #[.int .i64 0] 25 (0,0))):=qj ((hE2.block _ (by omega)).trans HB2.out)
 have hsz2:w.heap.size+1+1+1<(W1.alloc (.cells #[.slice A m.waits.length c] 77)).heap.size:=Nat.lt_of_lt_of_le hsz1 hE2.size
 generalize W1.alloc (.cells #[.slice A m.waits.length c] 77)=W2 at *
 clear HK HB0 HB1 HB2 HX H1 hsz1 HE2 hE2 c4
 have hsz0:w.heap.size≤W2.heap.size:=by omega
 obtain ⟨N,hN,hsz⟩:=zhw
 have HN:=qj hN
 have hag:=zjI
 have hzv:=zjC
 clear hN
 refine (wpIn_wide (n:=9)).1 ?_
 refine wpIn_rangeFunc_ownH (F:=Fence.wide) (n:=9) rfl (by omega) (gf:=191) (lb:=#[.pointer (some ⟨W1.heap.size,0,none⟩)]) rfl trivial (enters_of Tryz.func191 (by kernel_rfl) rfl)
  (zmU 8 (by omega) H2.out (by omega) W1.heap.size hBs0) (fun h k=>Below.trans h k) (belowK_b (Nat.le_refl _)) (Below.refl _ _) (fun _=>rfl)
  (fun pre W=>(∀x∈pre,x.2.1.1≠k)∧Below W2.heap.size W2 W)
  (fun cd pre W=>(cd=.ret∧∃(ini:List WI) (x:WI) (gb:Nat),pre=ini++[x]∧(∀y∈ini,y.2.1.1≠k)∧x.2.1.1=k∧w.heap.size≤gb∧W.cell? ⟨w.heap.size+1,0,none⟩=some (.slice (some ⟨gb,0,none⟩) 64 64)∧W.cell? ⟨w.heap.size+1+1,0,none⟩=some (.int .i64 0)∧W.heap[gb]?=some (.cells (vb x.2.1.2).toArray 156 (0,0)))∧Below w.heap.size w W)
  (OwnFrom.and (ownFrom_pure _ _) (ownFrom_below (Nat.le_refl _) (Nat.le_refl _)))
  (fun cd=>OwnFrom.and (fun s X Y row hs hg hrow=>by
   obtain ⟨h0,ini,x,gb,h1,h2,h3,h4,h5,h6,h7⟩:=hs
   refine ⟨h0,ini,x,gb,h1,h2,h3,h4,cell_kept h5 hg (fun r e=>(hrow r e).2),cell_kept h6 hg (fun r e=>(hrow r e).2),?_⟩
   refine (hg.block gb (Array.getElem?_eq_some_iff.1 h7).1 (fun e=>?_)).trans h7
   obtain ⟨_,o,ho,hoc⟩:=hrow gb e.symm
   rw [h7] at ho
   injection ho with ho
   subst ho
   cases hoc) (ownFrom_below (Nat.le_refl _) hsz0))
  ⟨by simp,Below.refl _ _⟩
  (fun x a' W=>∃Bx,W2.heap.size≤Bx∧W.heap[Bx]?=some (.cells (wriC x.2.1).toArray 158 (0,0))∧a'={ tmps:=#[.pointer (some ⟨d,0,none⟩),.int .i64 (k:Int),undef,.pointer (some ⟨w.heap.size,0,none⟩),.pointer (some ⟨w.heap.size+1,0,none⟩),.pointer (some ⟨w.heap.size+1+1,0,none⟩),.int .i64 0,undef,.pointer (some ⟨Bx,0,none⟩),undef,.pointer (some ⟨d,0,none⟩),.int .i64 (k:Int),.slice (some ⟨w.heap.size+1+1+1,0,none⟩) 1 1,.int .i64 0,.int .i64 0,.bool false,undef,.pointer (some ⟨d,0,none⟩),.pointer (some ⟨d,0,none⟩),.pointer (some ⟨d,4,none⟩),.slice A m.waits.length c,.func (.func 191) #[] #[.pointer (some ⟨W1.heap.size,0,none⟩)],.int .i64 x.1,.agg (wriC x.2.1).toArray,undef,undef,undef,undef,undef,undef,undef,undef,undef,undef,undef,undef,undef,undef,undef,undef,undef,undef,undef],defers:=[] })
  (fun x a'=>fun s X Y row hs hg hrow=>by
   obtain ⟨Bx,h1,h2,h3⟩:=hs
   refine ⟨Bx,h1,?_,h3⟩
   refine (hg.block Bx (Array.getElem?_eq_some_iff.1 h2).1 (fun e=>?_)).trans h2
   obtain ⟨_,o,ho,hoc⟩:=hrow Bx e.symm
   rw [h2] at ho
   injection ho with ho
   subst ho
   cases hoc) ?assign ?body ?done ?stop
 case assign =>
  rintro l pre x W K ⟨hi,hB⟩ hK
  have hl65:(wriC x.2.1).length=N:=by rw [HN.out];exact zcF x.2.2.1
  have hst:=scs W 158 zWri (wriC x.2.1) (by rw [zgj,hl65,HN.out]) (zcP _)
  have HI:=qj hi
  have HBB:=qj hB
  clear hi hB
  dsimp only [encW]
  gi_wp2
  exact hK _ _ ((KeepsOthers.alloc _ _).from _) ((Below.refl _ W).alloc HBB.out.size _) ⟨HI.out,HBB.out.alloc HBB.out.size _⟩ ⟨W.heap.size,HBB.out.size,heap_alloc_new W _,rfl⟩
 case body =>
  rintro l pre x a' W hl hr ⟨hne,hB⟩ ⟨Bx,hBx,bX,rfl⟩ _
  have hb0:=(hB.cell (p:=⟨w.heap.size,0,none⟩) (show w.heap.size<W2.heap.size by omega)).trans e0.out
  have hb1:W.heap[w.heap.size+1]?=some (.cells #[.slice none 0 0] 45 (0,0)):=(hB.block _ (by omega)).trans e1.out
  have hb2:W.heap[w.heap.size+1+1]?=some (.cells #[.int .i64 0] 25 (0,0)):=(hB.block _ (by omega)).trans e2.out
  have hc64:W.cell? ⟨Bx,64,none⟩=some (.int .i64 (x.2.1.1:Int)):=by
   rw [cell_of_row W Bx 64 _ _ _ bX,List.getElem?_toArray,zqx x.2.2.1]
  by_cases hxk:x.2.1.1=k
  ·have heq:((x.2.1.1:Int) == (k:Int))=true:=by rw [beq_iff_eq,hxk]
   obtain ⟨N4,hN4,hs4⟩:=zrr
   have hag4:=ztE
   have hN40:¬N4=0:=by omega
   have hbl:(vb x.2.1.2).length=N4:=by rw [hN4,zag];exact x.2.2.1
   have hrg:W.rangeAt Bx 0 (vb x.2.1.2):=by
    have:=World.rangeAt_of_block bX 0 64
    rwa [show ((wriC x.2.1).toArray.extract 0 (0+64)).toList=vb x.2.1.2 by simp [wriC,zag,x.2.2.1]] at this
   have hld4:(loadCellsFrom ⟨Bx,0,none⟩ 0 N4 #[]).run Tryz.prog W=.ok (vb x.2.1.2).toArray W:=lcf W Bx 0 N4 _ hbl hrg
   have hc1:W.cell? ⟨w.heap.size+1,0,none⟩=some (.slice none 0 0):=cell_of_row W _ 0 _ _ _ hb1
   have hf1:W.frozen? ⟨w.heap.size+1,0,none⟩=false:=frozen_of_row W _ 0 _ _ hb1
   have hc2:W.cell? ⟨w.heap.size+1+1,0,none⟩=some (.int .i64 0):=cell_of_row W _ 0 _ _ _ hb2
   have hf2:W.frozen? ⟨w.heap.size+1+1,0,none⟩=false:=frozen_of_row W _ 0 _ _ hb2
   have hl1:w.heap.size+1<W.heap.size:=Nat.lt_of_lt_of_le (by omega) hB.size
   have hl2:w.heap.size+1+1<W.heap.size:=Nat.lt_of_lt_of_le (by omega) hB.size
   have HNE:=qj hne
   have HB:=qj hB
   have HXK:=qj hxk
   have HTL:=qj (znE x.2.1.2 W)
   have HB1:=qj hb1
   have HB2:=qj hb2
   have h7:1≤9-1-1:=by omega
   clear hN4 hbl hrg hne hB hxk bX hb1 hb2 hl hr
   gi_wp2_with (refine ⟨trivial,?_⟩;gi_at_call 178;refine (CallsIn.inRound l (callsIn_wide.2 HTL.out)).mono ?_;rintro e W3 ⟨rfl,rfl⟩)
   refine ⟨(((KeepsOthers.setCell _ _ _).trans (KeepsOthers.setCell _ _ _)).trans (KeepsOthers.alloc _ _)).from _,⟨rfl,pre,x,W.heap.size,rfl,HNE.out,HXK.out,?_,?_,?_,?_⟩,?_⟩
   ·exact Nat.le_trans hsz0 HB.out.size
   ·rw [World.cell?_alloc_past _ _ _ (by simp;omega),World.cell?_setCell_far _ _ _ _ (by simp)]
    exact cell_of_row _ _ 0 _ _ _ (zae 0 HB1.out _ rfl)
   ·rw [World.cell?_alloc_past _ _ _ (by simp;omega)]
    exact cell_of_row _ _ 0 _ _ _ (zae 0 (zbQ (by omega) HB2.out) _ rfl)
   ·have:=heap_alloc_last ((W.setCell ⟨w.heap.size+1,0,none⟩ (.slice (some ⟨W.heap.size,0,none⟩) 64 64)).setCell ⟨w.heap.size+1+1,0,none⟩ (.int .i64 0)) (.cells (vb x.2.1.2).toArray 156)
    simpa using this
   ·have hb:=(Below.trans HX2.out (HB.out.mono hsz0))
    have hb2:=((hb.setCell (p:=⟨w.heap.size+1,0,none⟩) (show w.heap.size≤w.heap.size+1 by omega) (.slice (some ⟨W.heap.size,0,none⟩) 64 64)).setCell (p:=⟨w.heap.size+1+1,0,none⟩) (show w.heap.size≤w.heap.size+1+1 by omega) (.int .i64 0))
    exact hb2.alloc hb2.size _
  ·have heq:((x.2.1.1:Int) == (k:Int))=false:=by
    rw [beq_eq_false_iff_ne]
    intro hc
    exact hxk (Int.ofNat.inj hc)
   have HNE:=qj hne
   have HB:=qj hB
   have HXK:=qj hxk
   clear hne hB hxk bX hb1 hb2 hl hr
   gi_wp2
   exact ⟨KeepsFrom.refl _ _,Below.refl _ _,fun y hy=>by
    rcases List.mem_append.1 hy with hy | hy
    ·exact HNE.out y hy
    ·simp only [List.mem_singleton] at hy
     subst hy
     exact HXK.out,HB.out⟩
 case done =>
  rintro D ys W hD hys ⟨hne,hB⟩ hK
  have hlw:=zmH hys hne
  have HRD:=qj (znY k HU.out HH.out hlw)
  clear hys hne hlw hsz hag hzv HN
  have H3:=qj (H2.out.mod (F:=fun i=>W2.heap.size≤i) ⟨hB.os,hB.tape,hB.output,hB.size,fun i hi _=>hB.block i hi⟩ fun i hi hle=>by
   rcases hi with rfl | rfl | hi
   ·exact absurd H2.out.lt (by omega)
   ·exact absurd H2.out.glt (by omega)
   ·exact absurd (H2.out.pen.lt i hi).2 (by omega))
  have hb0:=(hB.cell (p:=⟨w.heap.size,0,none⟩) (show w.heap.size<W2.heap.size by omega)).trans e0.out
  have hb1:=(hB.block _ (show w.heap.size+1<W2.heap.size by omega)).trans e1.out
  have hb2:=(hB.block _ (show w.heap.size+1+1<W2.heap.size by omega)).trans e2.out
  have hX:=(Below.trans HX2.out (hB.mono hsz0))
  have hDW:D<W.heap.size:=(Array.getElem?_eq_some_iff.1 hK).1
  have hhas:m.has (k:Int)=true:=by
   have:=HH.out
   simpa using this
  obtain ⟨_,hs1⟩:=DM.has_iff.1 hhas
  have hks:k<m.size:=by omega
  have hl1:w.heap.size+1+1<W.heap.size:=Nat.lt_of_lt_of_le (by omega) hB.size
  clear hB e0 e1 e2 hhas hBs0 HX2 H2
  go_wp2_with fail
  obtain ⟨⟨_,_,_,c3,_⟩,_⟩:=H3.out.cells
  obtain ⟨N,hN,hsz⟩:=zkT
  have HN:=qj hN
  have hag:=znf
  have hzv:=zrE
  have hlen:(m.sec k).length=N:=by rw [hN];exact H3.out.ok.sec_len hks
  have hr:W.rangeAt g (k * N) (m.sec k):=by rw [hN];exact H3.out.med.range hks
  have hld:∀w',World.rangeAt w' g (k * N) (m.sec k)→(loadCellsFrom ⟨g,k * N,none⟩ 0 N #[]).run Tryz.prog w'=.ok (m.sec k).toArray w':=fun w' h=>lcf w' g _ N _ hlen h
  have hst:(storeCells ⟨W.heap.size,0,none⟩ (m.sec k) 0).run Tryz.prog (W.alloc (.cells zMed 201)).drew=.ok () (W.alloc (.cells (m.sec k).toArray 201)).drew:=scs W.drew 201 zMed (m.sec k) (by rw [zgh,hlen,hN]) (zhE _ _ _)
  have hS0:(W.drew.cell? ⟨d,3,none⟩=some (.slice (some ⟨g,0,none⟩) m.size m.size)∧W.drew.cell? ⟨w.heap.size,0,none⟩=some (.int .i64 (k:Int))∧W.drew.rangeAt g (k * N) (m.sec k)):=⟨c3,hb0,hr⟩
  have hSa:∀o:Obj,((W.alloc o).drew.cell? ⟨d,3,none⟩=some (.slice (some ⟨g,0,none⟩) m.size m.size)∧(W.alloc o).drew.cell? ⟨w.heap.size,0,none⟩=some (.int .i64 (k:Int))∧(W.alloc o).drew.rangeAt g (k * N) (m.sec k)):=fun o =>
   ⟨(H3.out.ext (((Ext.refl W).alloc o).drew)).cells.1.2.2.2.1,((Ext.refl W).alloc o).drew.cell (p:=⟨w.heap.size,0,none⟩) (show w.heap.size<W.heap.size by omega) |>.trans hb0,World.rangeAt_alloc hr _⟩
  clear hN hr c3
  go_region_held3 (fun w'=>w'.cell? ⟨d,3,none⟩=some (.slice (some ⟨g,0,none⟩) m.size m.size)∧w'.cell? ⟨w.heap.size,0,none⟩=some (.int .i64 (k:Int))∧w'.rangeAt g (k * N) (m.sec k))
   (first | with_reducible exact hS0 | with_reducible exact hSa _)
   (fail)
  have hN:=HN.out
  subst hN
  clear hS0 hSa hst hld hag hzv hsz hlen HN
  have hE:=((Ext.refl W).alloc (.cells (m.sec k).toArray 201)).drew
  have hrn:(W.alloc (.cells (m.sec k).toArray 201)).drew.rangeAt W.heap.size 0 (vb (m.rest.getD k [])):=zcE W _ _ [] _ _ (zjH m k) 0 rfl
  have hc128:(W.alloc (.cells (m.sec k).toArray 201)).drew.cell? ⟨W.heap.size,128,none⟩=some (.bool (m.lost.getD k false)):=by
   rw [show (W.alloc (.cells (m.sec k).toArray 201)).drew.cell? ⟨W.heap.size,128,none⟩=(W.alloc (.cells (m.sec k).toArray 201)).cell? ⟨W.heap.size,128,none⟩ from rfl,World.cell?_alloc_new,List.getElem?_toArray,zky H3.out.ok hks]
  have q1:=(hE.block _ (show w.heap.size+1<W.heap.size by omega)).trans hb1
  have q2:=(hE.block _ (show w.heap.size+1+1<W.heap.size by omega)).trans hb2
  have qK:=(hE.block _ hDW).trans hK
  have qX:=Below.trans hX (hE.mono hX.size)
  have ql:=Nat.lt_of_lt_of_le hl1 hE.size
  have HRS:=qj (H3.out.ok.rest_at hks)
  have hDb:w.heap.size+1+1<D:=by omega
  clear hE hb0 hb1 hb2 hK hDW hX hl1
  generalize (W.alloc (.cells (m.sec k).toArray 201)).drew=V at *
  have hc1:V.cell? ⟨w.heap.size+1,0,none⟩=some (.slice none 0 0):=cell_of_row V _ 0 _ _ _ q1
  have hf1:V.frozen? ⟨w.heap.size+1,0,none⟩=false:=frozen_of_row V _ 0 _ _ q1
  have hc2:V.cell? ⟨w.heap.size+1+1,0,none⟩=some (.int .i64 0):=cell_of_row V _ 0 _ _ _ q2
  have hf2:V.frozen? ⟨w.heap.size+1+1,0,none⟩=false:=frozen_of_row V _ 0 _ _ q2
  have hl1:w.heap.size+1<V.heap.size:=by omega
  have HQ1:=qj q1
  have HQ2:=qj q2
  have HQK:=qj qK
  have HQX:=qj qX
  have HRN:=qj hrn
  have ends:∀(v1 v2:Value),(((V.setCell ⟨w.heap.size+1,0,none⟩ v1).setCell ⟨w.heap.size+1+1,0,none⟩ v2).cell? ⟨w.heap.size+1,0,none⟩=some v1∧((V.setCell ⟨w.heap.size+1,0,none⟩ v1).setCell ⟨w.heap.size+1+1,0,none⟩ v2).cell? ⟨w.heap.size+1+1,0,none⟩=some v2) ∧
   ((V.setCell ⟨w.heap.size+1,0,none⟩ v1).setCell ⟨w.heap.size+1+1,0,none⟩ v2).heap[D]?=some (.deferred (some []))∧Ext w ((V.setCell ⟨w.heap.size+1,0,none⟩ v1).setCell ⟨w.heap.size+1+1,0,none⟩ v2):=fun v1 v2=>by
   refine ⟨⟨?_,?_⟩,?_,?_⟩
   ·rw [World.cell?_setCell_far _ _ _ _ (by simp)]
    exact cell_of_row _ _ 0 _ _ _ (zae 0 HQ1.out _ rfl)
   ·exact cell_of_row _ _ 0 _ _ _ (zae 0 (zbQ (by omega) HQ2.out) _ rfl)
   ·exact zbQ (by omega) (zbQ (by omega) HQK.out)
   ·exact (HQX.out.setCell (p:=⟨w.heap.size+1,0,none⟩) (show w.heap.size≤w.heap.size+1 by omega) v1).setCell (p:=⟨w.heap.size+1+1,0,none⟩) (show w.heap.size≤w.heap.size+1+1 by omega) v2
  have HEN:=qj ends
  clear q1 q2 qK qX ends hrn
  by_cases hlost:m.lost.getD k false=true
  ·rw [hlost] at hc128
   have HR2:Hid (m.read (k:Int)=([],50)):=qj (by rw [HRD.out,if_pos hlost])
   clear hlost
   go_wp2_with fail
   obtain ⟨⟨z1,z2⟩,z3,z4⟩:=HEN.out (.slice none 0 0) (.int .i64 50)
   refine zmR rfl rfl rfl z3 z1 z2 ?_
   exact ⟨_,_,by rw [HR2.out],by rw [HR2.out];exact New.none_ _ _,zjv z4 (by omega) z3⟩
  ·have hl0:m.lost.getD k false=false:=by simpa using hlost
   rw [hl0] at hc128
   have HR2:Hid (m.read (k:Int)=(m.rest.getD k [],0)):=qj (by rw [HRD.out,if_neg hlost])
   clear hlost hl0
   go_wp2_with (first
    | (refine zmZ rfl _ rfl W.heap.size 0 rfl _ HRN.out (by rw [zag];exact HRS.out.1) ?_))
   refine (znE _ _).mono ?_
   rintro e w5 ⟨rfl,rfl⟩
   go_wp2_with fail
   obtain ⟨⟨z1,z2⟩,z3,z4⟩:=HEN.out (.slice (some ⟨V.heap.size,0,none⟩) 64 64) (.int .i64 0)
   have hXs:((V.setCell ⟨w.heap.size+1,0,none⟩ (.slice (some ⟨V.heap.size,0,none⟩) 64 64)).setCell ⟨w.heap.size+1+1,0,none⟩ (.int .i64 0)).heap.size=V.heap.size:=by simp
   generalize ((V.setCell ⟨w.heap.size+1,0,none⟩ (.slice (some ⟨V.heap.size,0,none⟩) 64 64)).setCell ⟨w.heap.size+1+1,0,none⟩ (.int .i64 0))=X at *
   have hDX:D<X.heap.size:=(Array.getElem?_eq_some_iff.1 z3).1
   have e:=(Ext.refl X).alloc (.cells (vb (m.rest[k]?.getD [])).toArray 156)
   have z3':=(e.block D hDX).trans z3
   have hlast:=heap_alloc_last X (.cells (vb (m.rest[k]?.getD [])).toArray 156)
   rw [hXs] at hlast
   have hrs:Sect (m.rest[k]?.getD []):=by
    have:=HRS.out
    rwa [List.getD_eq_getElem?_getD] at this
   refine zmR rfl rfl rfl z3' ((e.cell (p:=⟨w.heap.size+1,0,none⟩) (show w.heap.size+1<X.heap.size by omega)).trans z1) ((e.cell (p:=⟨w.heap.size+1+1,0,none⟩) (show w.heap.size+1+1<X.heap.size by omega)).trans z2) ?_
   have hnew:New w.heap.size ((X.alloc (.cells (vb (m.rest[k]?.getD [])).toArray 156)).putObj D (.deferred none)) (some ⟨V.heap.size,0,none⟩) 64 (m.rest[k]?.getD []) :=
    ⟨hrs.1,hrs.2,.inr ⟨_,_,rfl,by omega,(World.putObj_heap_other (by omega)).trans hlast⟩,Nat.le_refl _⟩
   exact ⟨_,_,by rw [HR2.out],by rw [HR2.out,List.getD_eq_getElem?_getD];exact hnew,zjv (Below.trans z4 (e.mono z4.size)) (by omega) z3'⟩
 case stop =>
  rintro D cd pre W hD ⟨j,hpre⟩ ⟨⟨rfl,ini,x,gb,rfl,h2,h3,h4,h5,h6,h7⟩,hB⟩ hK
  have HRD:=qj (zrO k HU.out HH.out (zmp hpre h2 h3))
  clear hpre h2 h3 hsz hag hzv HN
  gi_wp2
  refine zmR rfl rfl rfl hK h5 h6 ?_
  have hne:gb≠D:=by
   intro e
   rw [e,hK] at h7
   cases h7
  have hnew:New w.heap.size (W.putObj D (.deferred none)) (some ⟨gb,0,none⟩) 64 x.2.1.2:=⟨x.2.2.1,x.2.2.2,.inr ⟨gb,_,rfl,h4,(World.putObj_heap_other hne).trans h7⟩,Nat.le_refl _⟩
  exact ⟨_,_,by rw [HRD.out],by rw [HRD.out];exact hnew,zjv hB (Nat.le_trans hsz0 hD) hK⟩
theorem zsA {w:World} {d g:Nat} {pv:Value} {m:DM} (h:PD w d g pv m) (s:Int) (hfew:m.waits.length≤1000000) :
 Calls Tryz.prog 152 #[aD d 0,.int .i64 s] w fun e w'=>∃A n,e=.returned (.tuple #[.slice A n n,.int .i64 (m.read s).2])∧New w.heap.size w' A n (m.read s).1∧Ext w w':=by
 by_cases hu:m.up=false
 ·exact zkh h s 5 (by omega) (ztl s hu) (by rw [if_pos hu])
 ·by_cases hh:m.has s=false
  ·exact zkh h s 2 (by omega) (zqJ s hu hh) (by rw [if_neg hu,if_pos hh])
  ·have hhas:m.has s=true:=by simpa using hh
   obtain ⟨k,rfl⟩:=Int.eq_ofNat_of_zero_le (DM.has_iff.1 hhas).1
   exact ztv h k hfew hu hh
end
theorem zdt:(Tryz.prog.info? 158).map (fun i=>(i.zero,i.size,i.bytes))=some (some (.agg zWri),65,72):=by kernel_rfl
theorem zox (k:Nat):∀w,(Instr.build 158 #[(1,.int .i64 (k:Int))]).run Tryz.prog w=.ok (.agg (wriC (k,z64)).toArray) w:=fun w=>run_build w _ _ _ (by kernel_rfl)
theorem zuH {ops:Array Oper} {rest:List Oper} {o:Oper} {a:Act} {w:World} {Q:Exit→Act→World→Prop} (hgd:o.guard=none) (x:Operand) (k:Nat) (ho:o.op=.build 158 #[(1,x)]) (hx:a.eval x=.int .i64 (k:Int))
 (h:wpList Tryz.prog ops Q rest (a.put o.dst (.agg (wriC (k,z64)).toArray)) w):wpList Tryz.prog ops Q (o :: rest) a w :=
 wpList_plain hgd fun _ hK=>by
  unfold Oper.wp execOp
  have hb:=zox k w
  simp only [ho,List.map_toArray,List.map_cons,List.map_nil,hx,Sem.run_bind,hb,Result.andThen_ok,Sem.run_pure]
  exact hK _ _ h
theorem ztf {ops:Array Oper} {rest:List Oper} {o:Oper} {a:Act} {w:World} {Q:Exit→Act→World→Prop} (hgd:o.guard=none) (d s:Operand) (ho:o.op=.call { callee:=.builtin .copy,args:=#[d,s],argTypes:=#[45,45] })
 (k:Nat) (l:List Nat) (hl:l.length=64) (A:Option Addr) (c:Nat) (hd:a.eval d=.slice (some ⟨w.heap.size,0,none⟩) 64 64) (hs:a.eval s=.slice A 64 c) (hb:By w A 64 c l)
 (h:wpList Tryz.prog ops Q rest (a.put o.dst (goInt 64)) (w.alloc (.cells (wriC (k,l)).toArray 158))):wpList Tryz.prog ops Q (o :: rest) a (w.alloc (.cells (wriC (k,z64)).toArray 158)):=by
 obtain ⟨g,o',x,rfl,hg,_⟩:=hb.rd.at_ (k:=0) (by omega)
 have hu:Tryz.prog.underlying 45=some (.slice 5):=Tryz.underlying45
 have hsz:(Tryz.prog.info? 5).map (·.size)=some 1:=by kernel_rfl
 refine wpList_copy_own hgd d s 45 45 ho 5 hu hsz w.heap.size 0 64 64 ⟨g,o',none⟩ 64 c hd hs (wriC (k,z64)).toArray 158 (heap_alloc_new w _) (vb l) (by rw [zag,hl];rfl) (fun j v hv=>?_) (by simp [zag,hl,wriC,z64]) (zde l) ?_
 ·rw [zdz] at hv
  obtain ⟨y,hy,rfl⟩:=Option.map_eq_some_iff.1 hv
  have hj:j<l.length:=(List.getElem?_eq_some_iff.1 hy).1
  rw [Addr.add_lit,World.cell?_alloc_lt _ _ _ hg]
  obtain ⟨g2,o2,e2,_,hc⟩:=hb.rd.2 (by omega)
  injection e2 with e2
  injection e2 with e3 e4
  subst e3;subst e4
  exact hc j y hy
 ·rw [World.setRow_alloc_new]
  have e:(((wriC (k,z64)).toArray.toList.take 0)++(vb l++(wriC (k,z64)).toArray.toList.drop (0+(vb l).length))).toArray=(wriC (k,l)).toArray:=by
   rw [zag,hl]
   simp [wriC,z64,vb]
  rw [e,zag,hl]
  exact h
theorem zrJ (m:DM) (s:Int) (b:List Nat):m.write s b=if m.up=false then (5,m) else if m.has s=false∨b.length≠64 then (2,m) else if m.power=0 then (5,{ m with dead:=true }) else (0,{ m with power:=lessP m.power,waits:=m.waits++[(s.toNat,b)] }):=rfl
theorem zsy (m:DM) (s:Int):runE m [s]=if m.up=false then 5 else if m.has s=false then 2 else 0:=by
 unfold runE
 rw [zeF]
theorem PD.more {w w':World} {d g:Nat} {pv pv':Value} {m:DM} (h:PD w d g pv m) (F:Nat→Prop) (k:Mod F w w') (hF:¬F g) (x:Nat × List Nat) (hx:x.1<m.size) (hx2:Sect x.2)
 (hd:zfT w' d (aD d 0) (stOf m) m.power (.slice (some ⟨g,0,none⟩) m.size m.size) pv') (hp:w'.ownsRow 0 158 65 pv' (m.waits.length+1) (penC m.waits++wriC x)) (hne:∀i,pv'.ownBlock=some i→i≠d∧i≠g):PD w' d g pv' { m with waits:=m.waits++[x] }:=by
 refine ⟨⟨h.ok.meant,h.ok.lost,h.ok.rests,h.ok.means,fun y hy=>?_,h.ok.power⟩,h.n1,h.top,hd,?_,?_,h.dg,hne⟩
 ·rcases List.mem_append.1 hy with hy | hy
  ·exact h.ok.waits y hy
  ·simp only [List.mem_singleton] at hy
   subst hy
   exact ⟨hx,hx2⟩
 ·obtain ⟨cur,c1,c2,c3⟩:=h.med.mod k hF
  exact ⟨cur,c1,c2,c3⟩
 ·show w'.ownsRow 0 _ 65 pv' (m.waits++[x]).length (penC (m.waits++[x]))
  rw [List.length_append,zof]
  exact hp
theorem zrF {w:World} {d g:Nat} {pv:Value} {m:DM} (h:PD w d g pv m) (s:Int) (A:Option Addr) (n c:Nat) (b:List Nat) (hb:By w A n c b) (hoff:Off (fun i=>i=d) A) (hfew:m.waits.length≤1000000) :
 Calls Tryz.prog 47 #[aD d 0,.int .i64 s,.slice A n c] w fun e w'=>∃pv',e=.returned (.int .i64 (m.write s b).1)∧PD w' d g pv' (m.write s b).2∧(pv'.ownBlock=pv.ownBlock∨∃i,pv'.ownBlock=some i∧w.heap.size≤i)∧Mod (Fp d g pv) w w':=by
 have hx:=(Ext.refl w).alloc (.cells #[.int .i64 s] 3)
 have h1:=h.ext hx
 have hz:=ZsAt.one w s 3
 have hk:=zcR h1 _ 1 1 [s] hz
 rw [zsy] at hk
 have HX:=qj hx
 have H1:=qj h1
 have HP:=qj (zrJ m s b)
 have HB:=qj (By.ext hb hx)
 have HN:=qj (Bs.len hb)
 have hnm:n≤9223372036854775807:=Nat.le_trans (Bs.cap hb) (Bs.most hb)
 clear h h1 hx hz hb
 by_cases hu:m.up=false
 ·have HP1:=qj (show m.write s b=_ by rw [HP.out,if_pos hu])
  rw [if_pos hu] at hk
  have HK:=qj hk
  clear hk hu HP
  go_enter Tryz.func47,Tryz.ntmps47
  go_wp2_with fail
  refine HK.out.mono ?_
  rintro e w1 ⟨rfl,rfl⟩
  go_wp2_with fail
  go_ret
  exact ⟨pv,by rw [HP1.out];rfl,by rw [HP1.out];exact H1.out,.inl rfl,Mod.of_ext HX.out⟩
 rw [if_neg hu] at hk
 have HP:=qj (show m.write s b=_ by rw [HP.out,if_neg hu])
 have hup:m.up=true:=by simpa using hu
 have HUP:=qj hup
 clear hu hup
 by_cases hh:m.has s=false
 ·have HP1:=qj (show m.write s b=_ by rw [HP.out,if_pos (.inl hh)])
  rw [if_pos hh] at hk
  have HK:=qj hk
  clear hk hh HP
  go_enter Tryz.func47,Tryz.ntmps47
  go_wp2_with fail
  refine HK.out.mono ?_
  rintro e w1 ⟨rfl,rfl⟩
  go_wp2_with fail
  go_ret
  exact ⟨pv,by rw [HP1.out];rfl,by rw [HP1.out];exact H1.out,.inl rfl,Mod.of_ext HX.out⟩
 rw [if_neg hh] at hk
 have HK:=qj hk
 by_cases hn:n=64
 ·have hhas:m.has s=true:=by simpa using hh
  obtain ⟨hs0,hs1⟩:=DM.has_iff.1 hhas
  obtain ⟨k,rfl⟩:=Int.eq_ofNat_of_zero_le hs0
  have hks:k<m.size:=by omega
  subst hn
  have HP:=qj (show m.write (k:Int) b=_ by rw [HP.out,if_neg (by rw [HN.out];intro hc;exact hc.elim hh (fun h=>h rfl))])
  rw [Int.toNat_natCast] at HP
  have hdr:=znc H1.out.headAt H1.out.ok.power H1.out.top
  have HD:=qj hdr
  clear hk hh hhas hdr
  by_cases hp0:m.power=0
  ·have HP1:=qj (show m.write (k:Int) b=_ by rw [HP.out,if_pos hp0])
   have HS:Hid (ziy m.power=5∧ziY m.power (stOf m)=stOf { m with dead:=true }∧lessP m.power=0):=qj ⟨by rw [hp0];rfl,by
    rw [hp0]
    show (1:Int)=stOf { m with dead:=true }
    unfold stOf
    have hd:m.down=false:=by
     have hup:=HUP.out
     unfold DM.up at hup
     cases hm:m.down <;> simp_all
    simp [hd],by rw [hp0];rfl⟩
   have HP0:=qj hp0
   clear hp0 HP
   go_enter Tryz.func47,Tryz.ntmps47
   go_wp2_with fail
   refine HK.out.mono ?_
   rintro e w1 ⟨rfl,rfl⟩
   go_wp2_with fail
   refine HD.out.mono ?_
   rw [HS.out.1,HS.out.2.1,HS.out.2.2]
   rintro e w2 ⟨rfl,hh,hm⟩
   have HM:=qj hm
   have HH:=qj hh
   clear hh hm
   go_wp2_with fail
   go_ret
   refine ⟨pv,by rw [HP1.out];rfl,?_,.inl rfl,(Mod.of_ext HX.out).then (HM.out.mono fun _ hi=>.inl hi)⟩
   rw [HP1.out]
   exact H1.out.head_turned HM.out (stOf { m with dead:=true }) 0 HH.out _ ⟨H1.out.ok.meant,H1.out.ok.lost,H1.out.ok.rests,H1.out.ok.means,H1.out.ok.waits,H1.out.ok.power⟩ rfl rfl rfl rfl rfl HP0.out (by omega)
  ·have HP1:=qj (show m.write (k:Int) b=_ by rw [HP.out,if_neg hp0])
   have HS:Hid (ziy m.power=0∧ziY m.power (stOf m)=stOf m):=qj ⟨if_neg hp0,if_neg hp0⟩
   clear hp0 HP
   go_enter Tryz.func47,Tryz.ntmps47
   go_wp2_with fail
   refine HK.out.mono ?_
   rintro e w1 ⟨rfl,rfl⟩
   go_wp2_with fail
   refine HD.out.mono ?_
   rw [HS.out.1,HS.out.2]
   rintro e w2 ⟨rfl,hh,hm⟩
   have hpd:PD w2 d g pv { m with power:=lessP m.power }:=H1.out.head_turned hm (stOf m) (lessP m.power) hh { m with power:=lessP m.power } ⟨H1.out.ok.meant,H1.out.ok.lost,H1.out.ok.rests,H1.out.ok.means,H1.out.ok.waits,zff H1.out.ok.power⟩ rfl rfl rfl rfl rfl rfl (by
    have:=H1.out.top
    unfold lessP
    split <;> omega)
   have H2:=qj hpd
   have HM:=qj hm
   have hb2:Hid (By w2 A 64 c b):=qj (HB.out.mod hm hoff)
   clear hh hm hpd
   have hzv:=zjC
   go_wp2_with (first
    | (refine zuH rfl _ k rfl rfl ?_)
    | (refine zgU rfl _ _ rfl (wriC (k,z64)) rfl rfl (zcF (by simp [z64])) (zcP _) ?_)
    | (refine ztf rfl _ _ rfl k b HN.out A c rfl rfl hb2.out ?_))
   simp only [Act.put,goInt,List.setIfInBounds_toArray,List.set_cons_zero,List.set_cons_succ]
   have hE3:=((Ext.refl w2).alloc (.cells (wriC (k,b)).toArray 158))
   have h3:=H2.out.ext hE3
   have HX3:Hid (Mod (fun i=>i=d) w (w2.alloc (.cells (wriC (k,b)).toArray 158))):=qj (((Mod.of_ext HX.out).then HM.out).ext hE3)
   have hrn:(w2.alloc (.cells (wriC (k,b)).toArray 158)).rangeAt w2.heap.size 0 (wriC (k,b)):=zcE w2 _ (wriC (k,b)) [] (wriC (k,b)) [] (by simp) 0 rfl
   have hsx:Sect b:=⟨HN.out,hb2.out.rd.lt⟩
   have HSX:=qj hsx
   have hbne:w2.heap.size≠d:=Nat.ne_of_gt H2.out.lt
   have hlt3:w2.heap.size<(w2.alloc (.cells (wriC (k,b)).toArray 158)).heap.size:=by simp
   have hpn:∀i,pv.ownBlock=some i→i≠w2.heap.size:=fun i hi=>Nat.ne_of_lt (H2.out.pen.lt i hi).2
   have HPN:=qj hpn
   have hl65:(wriC (k,b)).length=65:=zcF hsx.1
   have h1c:=zcP (k,b)
   have HE3:=qj hE3
   have H3:=qj h3
   generalize w2.alloc (.cells (wriC (k,b)).toArray 158)=w3 at *
   obtain ⟨n3,hn3⟩:∃n3,w2.heap.size=n3:=⟨_,rfl⟩
   rw [hn3] at hrn hbne hlt3
   have HN3:=qj hn3
   obtain ⟨C,hC⟩:∃C,wriC (k,b)=C:=⟨_,rfl⟩
   rw [hC] at hrn hl65 h1c
   have HC:=qj hC
   obtain ⟨⟨_,_,_,_,c4⟩,_,_,_,_,f4⟩:=h3.cells
   obtain ⟨N,hN,hsz⟩:=zhw
   have HN65:=qj hN
   have hag:=zjI
   have hlen:C.length=N:=by rw [hN];exact hl65
   have hN1:¬16777216<N:=by omega
   have hN0:¬N=0:=by omega
   have hld:(loadCellsFrom ⟨n3,0,none⟩ 0 N #[]).run Tryz.prog w3.drew=.ok C.toArray w3.drew:=lcf w3.drew n3 0 N _ hlen hrn
   have hfold:List.foldl (fun (cs:Array Value) (x:Value × Nat)=>cs.setIfInBounds x.snd x.fst) (Array.map (fun x=>zWri[x%zWri.size]!) (Array.range N)) C.zipIdx=C.toArray:=by
    have key:∀Z:Array Value,Z.size=N→List.foldl (fun (cs:Array Value) (x:Value × Nat)=>cs.setIfInBounds x.snd x.fst) Z C.zipIdx=C.toArray:=fun Z hZ=>by
     have:=zfi C [] Z.toList [] (by rw [Array.length_toList,hZ,hlen])
     simp only [List.length_nil,List.nil_append,List.append_nil] at this
     exact this
    exact key _ (by simp)
   have hE4:Ext w3 (w3.alloc (.cells C.toArray 158)).drew:=((Ext.refl w3).alloc _).drew
   have hpen:(w3.alloc (.cells C.toArray 158)).drew.ownsRow 0 158 65 pv m.waits.length (penC m.waits):=(H3.out.ext hE4).pen
   have hcf:((w3.alloc (.cells C.toArray 158)).drew.cell? (aD d 4)=some pv)∧(w3.alloc (.cells C.toArray 158)).drew.frozen? (aD d 4)=false:=⟨(H3.out.ext hE4).cells.1.2.2.2.2,(H3.out.ext hE4).cells.2.2.2.2.2⟩
   have hnw:(w3.alloc (.cells C.toArray 158)).drew.heap[w3.heap.size]?=some (.cells C.toArray 158 (0,0)):=heap_alloc_new w3 _
   have HPEN:=qj hpen
   have HCF:=qj hcf
   have HNW:=qj hnw
   have HE4:=qj hE4
   have HC65:=qj hl65
   have h4:=hcf.1
   have hdlt:=H3.out.lt
   have hpd:=H3.out.pd
   have HPD:=qj hpd
   have HLT:Hid (d<(w3.alloc (.cells C.toArray 158)).drew.heap.size):=qj (Nat.lt_of_lt_of_le hdlt hE4.size)
   clear h3 hE3 hC hN hsx hpn hl65 hcf hnw hpen hE4 hpd hdlt
   rw [hn3]
   clear hn3
   go_region_law (first
    | (refine step_append_lies _ rfl _ _ 77 rfl 0 158 (Classical.choose (info_parts zdt)) (.agg zWri) 65 72 Tryz.underlying77 (Classical.choose_spec (info_parts zdt)).1 (Classical.choose_spec (info_parts zdt)).2.1 (Classical.choose_spec (info_parts zdt)).2.2.1 (Classical.choose_spec (info_parts zdt)).2.2.2 zgj (by decide) pv m.waits.length (penC m.waits) rfl HPEN.out ⟨w3.heap.size,0,none⟩ 1 1 C rfl (by rw [HC65.out]) (fun j u hu=>World.news_of_block HNW.out j u hu) h1c (by omega) (by unfold maxLen;omega) (by omega) (Nat.zero_le _) (w3.heap.size+1) (by simp) ?_;intro bk cap w4 hown hgrow hat hlt;have hc4:=(World.grownBy.cell_far hgrow ⟨d,4,none⟩ HLT.out (fun e=>(HPD.out d e.symm).1 rfl)).trans HCF.out.1;have hf4:=(World.grownBy.frozen_far hgrow ⟨d,4,none⟩ HLT.out (fun e=>(HPD.out d e.symm).1 rfl)).trans HCF.out.2;have HOWN:=qj hown;have HGR:=qj hgrow;have HAT:=qj hat;clear hown hgrow hat hlt))
   all_goals
    clear hld hfold h4 hsz hag hlen hN1 hN0
    go_wp2_with fail
    go_ret
    have hbk:bk≠d∧bk≠g:=HAT.out.elim (fun e=>HPD.out bk e) fun e=>by
     have h1:=H3.out.lt
     have h2:=H3.out.glt
     omega
    have hg0:∀i,pv.ownBlock=some i→i≠d∧i≠g:=HPD.out
    have m34:Mod (fun i=>i=d∨pv.ownBlock=some i) w3 (w4.setCell (aD d 4) (.slice (some ⟨bk,0,none⟩) (m.waits.length+1) cap)) :=
     ((Mod.of_ext HE4.out).grown HGR.out fun i hi=>.inl (.inr hi)).setCell (p:=⟨d,4,none⟩) (.inl (.inl rfl)) _
    have m03:Mod (Fp d g pv) w w3:=HX3.out.mono fun _ hi=>.inl hi
    have hC:=HC.out
    subst hC
    refine ⟨by rw [HP1.out];rfl,.slice (some ⟨bk,0,none⟩) (m.waits.length+1) cap,?_,?_,m03.trans m34 fun i hi=>.inl (hi.elim (fun h=>.inl h) fun h=>.inr (.inr h))⟩
    ·rw [HP1.out]
     have hh4:w4.heap[d]?=some (.cells #[aD d 0,.int .u8 (stOf m),.int .i64 (lessP m.power),.slice (some ⟨g,0,none⟩) m.size m.size,pv] 79 (0,0)) :=
      (HGR.out.block d HLT.out (fun e=>(hg0 d e.symm).1 rfl)).trans (H3.out.ext HE4.out).head
     refine H3.out.more (fun i=>i=d∨pv.ownBlock=some i) m34 (fun h=>h.elim (fun e=>H3.out.dg e.symm) fun e=>(hg0 g e).2 rfl) (k,b) hks HSX.out (zae 4 hh4 _ rfl) ?_ ?_
     ·exact zas (F:=fun i=>i=d) HOWN.out ((Mod.refl _ _).own_cell _ _) fun i hi=>by
       injection hi with hi
       subst hi
       exact hbk.1
     ·intro i hi
      injection hi with hi
      subst hi
      exact hbk
    ·rcases HAT.out with e | e
     ·exact .inl e.symm
     ·refine .inr ⟨bk,rfl,?_⟩
      have:=m03.size
      omega
 ·have HP1:=qj (show m.write s b=_ by rw [HP.out,if_pos (.inr (by rw [HN.out];exact hn))])
  have hne:((n:Int) != 64)=true:=by rw [bne_iff_ne];omega
  clear hk hh HP
  go_enter Tryz.func47,Tryz.ntmps47
  go_wp2_with fail
  refine HK.out.mono ?_
  rintro e w1 ⟨rfl,rfl⟩
  go_wp2_with fail
  go_ret
  exact ⟨pv,by rw [HP1.out];rfl,by rw [HP1.out];exact H1.out,.inl rfl,Mod.of_ext HX.out⟩
theorem zsd (l:List Nat) (k x:Nat):(vb l).set k (.int .u8 (x:Int))=vb (l.set k x):=by
 unfold vb
 rw [List.map_set]
theorem zna (y m:Nat) (hy:y<256) (hm:m<8):bits .xor .u8 (y:Int) ((2:Int) ^ m%256)=((y ^^^ 2 ^ m:Nat):Int):=by
 have hpw:2 ^ m<256:=by
  have:2 ^ m<2 ^ 8:=Nat.pow_lt_pow_right (by omega) hm
  omega
 have e:(2:Int) ^ m%256=((2 ^ m:Nat):Int):=by
  rw [Int.natCast_pow]
  refine Int.emod_eq_of_lt (Int.pow_nonneg (by omega)) ?_
  have:((2 ^ m:Nat):Int)<256:=by omega
  rw [Int.natCast_pow] at this
  exact this
 rw [e]
 exact u8_xor_nat y (2 ^ m) hy hpw
end Go.Proofs.YtdbpdhlecgoclaaGreatDoor
