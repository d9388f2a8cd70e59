/-
  The document's disk: New.
-/
import Derived.Test.YtdbpdhlecgoclaaGreatDoorP00
import Derived.Test.YtdbpdhlecgoclaaGreatDoorP01
import Derived.Test.YtdbpdhlecgoclaaGreatDoorP02
import Derived.Test.YtdbpdhlecgoclaaGreatDoorP03
import Derived.Test.YtdbpdhlecgoclaaGreatDoorP04
import Derived.Test.YtdbpdhlecgoclaaGreatDoorP05
import Derived.Test.YtdbpdhlecgoclaaGreatDoorP06
import Derived.Test.YtdbpdhlecgoclaaGreatDoorP12
import Derived.Test.YtdbpdhlecgoclaaGreatDoorP13
import Derived.StillTailTactics
import Derived.Laws.AppendOwnNone
namespace Go.Proofs.YtdbpdhlecgoclaaGreatDoor
set_option maxRecDepth 100000
set_option maxHeartbeats 6400000
open Go Go.RowKit
theorem zci:(Tryz.prog.info? 45).map (fun i=>(i.zero,i.size,i.bytes))=some (some (.slice none 0 0),1,24):=by kernel_rfl
theorem ztq:(Tryz.prog.info? 4).map (fun i=>(i.zero,i.size,i.bytes))=some (some (.bool false),1,1):=by kernel_rfl
def zbq:Obj:=.cells (madeCells #[.int .u8 0] 64) 5
theorem mk64 (w:World):(Instr.makeSlice 45 (.int .i64 64) (.int .i64 64)).run Tryz.prog w=.ok (.slice (some ⟨w.heap.size,0,none⟩) 64 64) (w.alloc zbq):=by
 obtain ⟨i0,hi,hz0,hz1,hz2⟩:=info_parts zay
 have:=run_make w 45 5 i0 (.int .u8 0) Tryz.underlying45 hi hz0 .i64 .i64 64 64 (by omega) (Int.le_refl _) (by rw [hz2];omega) (by omega)
 rw [hz1] at this
 exact this
theorem zbyt (w:World):Byt (w.alloc zbq) (w.heap.size,64) z64:=by
 have h:=World.ownsRow_lit (size:=1) (e:=5) w (madeCells #[.int .u8 0] 64) 64 (base:=0) (Nat.zero_le _) (by unfold maxLen;omega) (by rw [size_madeCells])
 rw [toList_madeCells_one] at h
 have e:vb z64=List.replicate 64 (Value.int .u8 0):=by unfold z64 vb;rw [List.map_replicate];rfl
 unfold Byt
 rw [e]
 exact h
structure NewAt (w wr:World) (d:Nat) (p:Nat→Nat) (vr vm vl:Value) (RB MB:List (Nat × Nat)) (a b c:Nat):Prop where
 hd:wr.heap[d]?=some (.cells #[vr,vm,vl,.slice none 0 0,.bool false,.bool false,.int .i64 (-1)] 65 (0,0))
 rr:wr.ownsRow 0 45 1 vr a (RB.map slV)
 rm:wr.ownsRow 0 45 1 vm b (MB.map slV)
 rl:wr.ownsRow 0 4 1 vl c (List.replicate c (.bool false))
 rb:∀(j:Nat) (x:Nat × Nat),RB[j]?=some x→p x.1=7+j∧Byt wr x z64
 mb:∀(j:Nat) (x:Nat × Nat),MB[j]?=some x→p x.1=6∧Byt wr x z64
 pd:p d=1
 pr:∀k,vr.ownBlock=some k→p k=2
 pm:∀k,vm.ownBlock=some k→p k=3
 pl:∀k,vl.ownBlock=some k→p k=4
 lt:∀k,p k≠0→w.heap.size≤k∧k<wr.heap.size
 ext:Ext w wr
section
variable {w wr w2 w4:World} {d bk cap:Nat} {p:Nat→Nat} {vr vm vl:Value} {RB MB:List (Nat × Nat)} {a b c:Nat}
theorem NewAt.ext_ (h:NewAt w wr d p vr vm vl RB MB a b c) (k:Ext wr w2):NewAt w w2 d p vr vm vl RB MB a b c :=
 ⟨(k.block d (Array.getElem?_eq_some_iff.1 h.hd).1).trans h.hd,zas (F:=fun _=>False) h.rr (Mod.of_ext k) (fun _ _ h=>h),zas (F:=fun _=>False) h.rm (Mod.of_ext k) (fun _ _ h=>h),zas (F:=fun _=>False) h.rl (Mod.of_ext k) (fun _ _ h=>h),fun j x hx=>⟨(h.rb j x hx).1,(h.rb j x hx).2.mod (F:=fun _=>False) (Mod.of_ext k) fun h=>h⟩,fun j x hx=>⟨(h.mb j x hx).1,(h.mb j x hx).2.mod (F:=fun _=>False) (Mod.of_ext k) fun h=>h⟩,
   h.pd,h.pr,h.pm,h.pl,fun i hi=>⟨(h.lt i hi).1,Nat.lt_of_lt_of_le (h.lt i hi).2 k.size⟩,h.ext.trans k⟩
theorem NewAt.dlt (h:NewAt w wr d p vr vm vl RB MB a b c):d<wr.heap.size:=(Array.getElem?_eq_some_iff.1 h.hd).1
theorem NewAt.grow (h:NewAt w wr d p vr vm vl RB MB a b c) {v0:Value} {r:Nat} (h0:∀k,v0.ownBlock=some k→p k=r) (hr:2≤r) (hg:wr.grownBy w4 v0.ownBlock) (hat:v0.ownBlock=some bk∨bk=wr.heap.size) (i:Nat) (v:Value) :
 Mod (fun k=>k=d∨v0.ownBlock=some k) wr (w4.setCell (aD d i) v)∧(∀k,k<wr.heap.size→part p bk r k=p k)∧(∀k r2,part p bk r k=r2→r2≠1→r2≠r→k<wr.heap.size→¬(k=d∨v0.ownBlock=some k))∧w4.heap[d]?=wr.heap[d]?∧bk≠d∧Ext w (w4.setCell (aD d i) v):=by
 have hdp:¬v0.ownBlock=some d:=fun e=>by have:=h0 d e;have:=h.pd;omega
 have hpb:∀k,k<wr.heap.size→part p bk r k=p k:=fun k hk=>by
  unfold part
  split
  ·rename_i e
   subst e
   rcases hat with e | e
   ·exact (h0 _ e).symm
   ·omega
  ·rfl
 have k:Mod (fun k=>k=d∨v0.ownBlock=some k) wr (w4.setCell (aD d i) v):=((Mod.refl _ wr).grown hg fun j hj=>.inl (.inr hj)).setCell (p:=⟨d,i,none⟩) (.inl (.inl rfl)) _
 refine ⟨k,hpb,fun j r2 hj h1 h2 hjl e=>?_,hg.block d h.dlt (fun e=>hdp e.symm),fun e=>?_,?_⟩
 ·rw [hpb j hjl] at hj
  rcases e with e | e
  ·rw [e,h.pd] at hj;omega
  ·rw [h0 j e] at hj;omega
 ·rcases hat with e2 | e2
  ·rw [e] at e2;exact hdp e2
  ·have:=h.dlt;omega
 ·have:=h.ext
  refine Mod.to_ext (F:=fun k=>k=d∨v0.ownBlock=some k) ((Mod.of_ext this).trans k fun j hj=>.inl hj) fun j hj=>?_
  rcases hj with e | e
  ·rw [e];exact (h.lt d (by rw [h.pd];omega)).1
  ·exact (h.lt j (by rw [h0 j e];omega)).1
theorem NewAt.partlt (h:NewAt w wr d p vr vm vl RB MB a b c) {r i:Nat} {v:Value} (hw4:wr.heap.size≤w4.heap.size) (hbk:bk<w4.heap.size) (hwb:w.heap.size≤bk):∀k,part p bk r k≠0→w.heap.size≤k∧k<(w4.setCell (aD d i) v).heap.size:=fun k hk=>by
 have hs:(w4.setCell (aD d i) v).heap.size=w4.heap.size:=by simp [World.setCell]
 rw [hs]
 rcases zbe hk with rfl | hk
 ·exact ⟨hwb,hbk⟩
 ·have:=h.lt k hk
  omega
theorem NewAt.stepR {z:Nat} (h:NewAt w wr d p vr vm vl RB MB a b c) (hz:Byt wr (z,64) z64) (hp:p z=7+a) (hown:w4.ownsRow 0 45 1 (.slice (some ⟨bk,0,none⟩) (a+1) cap) (a+1) (RB.map slV++[slV (z,64)])) (hg:wr.grownBy w4 vr.ownBlock) (hat:vr.ownBlock=some bk∨bk=wr.heap.size) (hbk:bk<w4.heap.size) :
 NewAt w (w4.setCell (aD d 0) (.slice (some ⟨bk,0,none⟩) (a+1) cap)) d (part p bk 2) (.slice (some ⟨bk,0,none⟩) (a+1) cap) vm vl (RB++[(z,64)]) MB (a+1) b c:=by
 obtain ⟨k,hpb,ne,hd4,hbd,hx⟩:=h.grow (w4:=w4) (bk:=bk) h.pr (by omega) hg hat 0 (.slice (some ⟨bk,0,none⟩) (a+1) cap)
 have hwb:w.heap.size≤bk:=hat.elim (fun e=>(h.lt bk (by rw [h.pr bk e];omega)).1) fun e=>by have:=h.ext.size;omega
 have hRB:RB.length=a:=by have:=h.rr.1;rw [List.length_map] at this;omega
 have pz:=fun (i:Nat) (hi:i<wr.heap.size)=>hpb i hi
 refine ⟨zae 0 (hd4.trans h.hd) _ rfl,?_,zas h.rm k (fun i hi=>ne i 3 ((pz i (h.rm.lt i hi).2).trans (h.pm i hi)) (by omega) (by omega) (h.rm.lt i hi).2),zas h.rl k (fun i hi=>ne i 4 ((pz i (h.rl.lt i hi).2).trans (h.pl i hi)) (by omega) (by omega) (h.rl.lt i hi).2),?_,?_,(pz d h.dlt).trans h.pd,fun i hi=>?_,fun i hi=>(pz i (h.rm.lt i hi).2).trans (h.pm i hi),fun i hi=>(pz i (h.rl.lt i hi).2).trans (h.pl i hi),h.partlt hg.size hbk hwb,hx⟩
 ·rw [List.map_append]
  exact zas hown (zaQ w4 d 0 _) fun i hi=>by
   injection hi with hi
   subst hi
   exact hbd
 ·intro j x hj
  rcases zhT hj with ⟨_,hj⟩ | ⟨hj2,rfl⟩
  ·have h1:=h.rb j x hj
   have h2:=(pz _ h1.2.lt).trans h1.1
   exact ⟨h2,h1.2.mod k (ne _ _ h2 (by omega) (by omega) h1.2.lt)⟩
  ·have h2:=(pz _ hz.lt).trans hp
   rw [hj2,hRB]
   exact ⟨h2,hz.mod k (ne _ _ h2 (by omega) (by omega) hz.lt)⟩
 ·intro j x hj
  have h1:=h.mb j x hj
  have h2:=(pz _ h1.2.lt).trans h1.1
  exact ⟨h2,h1.2.mod k (ne _ _ h2 (by omega) (by omega) h1.2.lt)⟩
 ·injection hi with hi
  subst hi
  exact zbI _ _ _
theorem NewAt.stepM {z:Nat} (h:NewAt w wr d p vr vm vl RB MB a b c) (hz:Byt wr (z,64) z64) (hp:p z=6) (hown:w4.ownsRow 0 45 1 (.slice (some ⟨bk,0,none⟩) (b+1) cap) (b+1) (MB.map slV++[slV (z,64)])) (hg:wr.grownBy w4 vm.ownBlock) (hat:vm.ownBlock=some bk∨bk=wr.heap.size) (hbk:bk<w4.heap.size) :
 NewAt w (w4.setCell (aD d 1) (.slice (some ⟨bk,0,none⟩) (b+1) cap)) d (part p bk 3) vr (.slice (some ⟨bk,0,none⟩) (b+1) cap) vl RB (MB++[(z,64)]) a (b+1) c:=by
 obtain ⟨k,hpb,ne,hd4,hbd,hx⟩:=h.grow (w4:=w4) (bk:=bk) h.pm (by omega) hg hat 1 (.slice (some ⟨bk,0,none⟩) (b+1) cap)
 have hwb:w.heap.size≤bk:=hat.elim (fun e=>(h.lt bk (by rw [h.pm bk e];omega)).1) fun e=>by have:=h.ext.size;omega
 have pz:=fun (i:Nat) (hi:i<wr.heap.size)=>hpb i hi
 refine ⟨zae 1 (hd4.trans h.hd) _ rfl,zas h.rr k (fun i hi=>ne i 2 ((pz i (h.rr.lt i hi).2).trans (h.pr i hi)) (by omega) (by omega) (h.rr.lt i hi).2),?_,zas h.rl k (fun i hi=>ne i 4 ((pz i (h.rl.lt i hi).2).trans (h.pl i hi)) (by omega) (by omega) (h.rl.lt i hi).2),?_,?_,(pz d h.dlt).trans h.pd,fun i hi=>(pz i (h.rr.lt i hi).2).trans (h.pr i hi),fun i hi=>?_,fun i hi=>(pz i (h.rl.lt i hi).2).trans (h.pl i hi),h.partlt hg.size hbk hwb,hx⟩
 ·rw [List.map_append]
  exact zas hown (zaQ w4 d 1 _) fun i hi=>by
   injection hi with hi
   subst hi
   exact hbd
 ·intro j x hj
  have h1:=h.rb j x hj
  have h2:=(pz _ h1.2.lt).trans h1.1
  exact ⟨h2,h1.2.mod k (ne _ _ h2 (by omega) (by omega) h1.2.lt)⟩
 ·intro j x hj
  rcases zhT hj with ⟨_,hj⟩ | ⟨hj,rfl⟩
  ·have h1:=h.mb j x hj
   have h2:=(pz _ h1.2.lt).trans h1.1
   exact ⟨h2,h1.2.mod k (ne _ _ h2 (by omega) (by omega) h1.2.lt)⟩
  ·have h2:=(pz _ hz.lt).trans hp
   exact ⟨h2,hz.mod k (ne _ _ h2 (by omega) (by omega) hz.lt)⟩
 ·injection hi with hi
  subst hi
  exact zbI _ _ _
theorem NewAt.stepL (h:NewAt w wr d p vr vm vl RB MB a b c) (hown:w4.ownsRow 0 4 1 (.slice (some ⟨bk,0,none⟩) (c+1) cap) (c+1) (List.replicate c (.bool false)++[.bool false])) (hg:wr.grownBy w4 vl.ownBlock) (hat:vl.ownBlock=some bk∨bk=wr.heap.size) (hbk:bk<w4.heap.size) :
 NewAt w (w4.setCell (aD d 2) (.slice (some ⟨bk,0,none⟩) (c+1) cap)) d (part p bk 4) vr vm (.slice (some ⟨bk,0,none⟩) (c+1) cap) RB MB a b (c+1):=by
 obtain ⟨k,hpb,ne,hd4,hbd,hx⟩:=h.grow (w4:=w4) (bk:=bk) h.pl (by omega) hg hat 2 (.slice (some ⟨bk,0,none⟩) (c+1) cap)
 have hwb:w.heap.size≤bk:=hat.elim (fun e=>(h.lt bk (by rw [h.pl bk e];omega)).1) fun e=>by have:=h.ext.size;omega
 have pz:=fun (i:Nat) (hi:i<wr.heap.size)=>hpb i hi
 refine ⟨zae 2 (hd4.trans h.hd) _ rfl,zas h.rr k (fun i hi=>ne i 2 ((pz i (h.rr.lt i hi).2).trans (h.pr i hi)) (by omega) (by omega) (h.rr.lt i hi).2),zas h.rm k (fun i hi=>ne i 3 ((pz i (h.rm.lt i hi).2).trans (h.pm i hi)) (by omega) (by omega) (h.rm.lt i hi).2),?_,?_,?_,(pz d h.dlt).trans h.pd,fun i hi=>(pz i (h.rr.lt i hi).2).trans (h.pr i hi),fun i hi=>(pz i (h.rm.lt i hi).2).trans (h.pm i hi),fun i hi=>?_,h.partlt hg.size hbk hwb,hx⟩
 ·rw [List.replicate_succ']
  exact zas hown (zaQ w4 d 2 _) fun i hi=>by
   injection hi with hi
   subst hi
   exact hbd
 ·intro j x hj
  have h1:=h.rb j x hj
  have h2:=(pz _ h1.2.lt).trans h1.1
  exact ⟨h2,h1.2.mod k (ne _ _ h2 (by omega) (by omega) h1.2.lt)⟩
 ·intro j x hj
  have h1:=h.mb j x hj
  have h2:=(pz _ h1.2.lt).trans h1.1
  exact ⟨h2,h1.2.mod k (ne _ _ h2 (by omega) (by omega) h1.2.lt)⟩
 ·injection hi with hi
  subst hi
  exact zbI _ _ _
theorem NewAt.recast (h:NewAt w wr d p vr vm vl RB MB a b c) {p':Nat→Nat} (hp:∀k,k<wr.heap.size→p' k=p k) (hl:∀k,p' k≠0→p k≠0∨(wr.heap.size≤k∧k<w2.heap.size)) (hx:Ext wr w2):NewAt w w2 d p' vr vm vl RB MB a b c:=by
 have e:=h.ext_ hx
 refine ⟨e.hd,e.rr,e.rm,e.rl,fun j x hj=>⟨(hp _ (h.rb j x hj).2.lt).trans (h.rb j x hj).1,(e.rb j x hj).2⟩,fun j x hj=>⟨(hp _ (h.mb j x hj).2.lt).trans (h.mb j x hj).1,(e.mb j x hj).2⟩,(hp _ h.dlt).trans h.pd,fun i hi=>(hp _ (h.rr.lt i hi).2).trans (h.pr i hi),fun i hi=>(hp _ (h.rm.lt i hi).2).trans (h.pm i hi),fun i hi=>(hp _ (h.rl.lt i hi).2).trans (h.pl i hi),fun i hi=>?_,e.ext⟩
 rcases hl i hi with h1 | h1
 ·exact e.lt i h1
 ·have:=h.ext.size
  omega
theorem NewAt.done (h:NewAt w wr d p vr vm vl RB MB a a a) (h1:1≤a) (h2:a≤1024):RD wr d p (DM.new a):=by
 have form:=fun {e:TypeId} {v:Value} {xs:List Value} (ho:wr.ownsRow 0 e 1 v a xs)=>show ∃g c,v=.slice (some ⟨g,0,none⟩) a c by
  rcases ho.2 with ⟨_,h0⟩ | ⟨g,cap,cur,hv,_⟩
  ·omega
  ·exact ⟨g,cap,hv⟩
 obtain ⟨gr,cr,e1⟩:=form h.rr
 obtain ⟨gm,cm,e2⟩:=form h.rm
 obtain ⟨gl,cl,e3⟩:=form h.rl
 subst e1;subst e2;subst e3
 have hs:(DM.new a).size=a:=by simp [DM.new,DM.size]
 have zr:∀j,j<a→(DM.new a).rest.getD j []=z64∧(DM.new a).meant.getD j []=z64:=fun j hj=>by
  show (List.replicate a z64).getD j []=z64∧(List.replicate a z64).getD j []=z64
  rw [List.getD_eq_getElem?_getD,List.getElem?_replicate,if_pos hj]
  exact ⟨rfl,rfl⟩
 have hRB:RB.length=a:=by have:=h.rr.1;rw [List.length_map] at this;omega
 have hMB:MB.length=a:=by have:=h.rm.1;rw [List.length_map] at this;omega
 refine ⟨⟨{ gr:=gr,gm:=gm,gl:=gl,cr:=cr,cm:=cm,cl:=cl,pv:=.slice none 0 0,RB:=RB,MB:=MB,WB:=[] },DM.new_ok a,⟨by rw [hs];exact h.hd,by rw [hs];exact ⟨h1,h2⟩⟩,by rw [hs];exact h.rr,by rw [hs];exact h.rm,?_,fun j x hx=>?_,fun j x hx=>?_,rfl,fun j x hx=>(by simp at hx),World.ownsRow_nil _ _ _ _,h.pd,h.pr gr rfl,h.pm gm rfl,h.pl gl rfl,fun k hk=>(by cases hk),by show (-1:Int)≤_;omega⟩,fun k hk=>(h.lt k hk).2⟩
 ·rw [hs]
  show wr.ownsRow 0 _ 1 _ a ((List.replicate a false).map .bool)
  rw [List.map_replicate]
  exact h.rl
 ·have hj:j<a:=by rw [←hRB];exact (List.getElem?_eq_some_iff.1 hx).1
  rw [(zr j hj).1]
  exact h.rb j x hx
 ·have hj:j<a:=by rw [←hMB];exact (List.getElem?_eq_some_iff.1 hx).1
  rw [(zr j hj).2]
  exact h.mb j x hx
end
theorem zve (s:Int) (w:World) (h:s<1∨1024<s):Calls Tryz.prog 6 #[.int .i64 s] w fun e w'=>∃a,e=.returned (.tuple #[.pointer (some a),.bool false])∧Ext w w':=by
 have HX:=qj ((Ext.refl w).alloc (.cells Zk.n 65))
 by_cases h1:s<1
 ·clear h
  go_enter Tryz.func6,Tryz.ntmps6
  go_wp2_with fail
  refine bodyPost_ret (v:=.tuple #[aD w.heap.size 0,.bool false]) (by simp [results,Tryz.results6,go_sem]) rfl ?_
  first | exact ⟨_,rfl,HX.out⟩ | exact ⟨rfl,HX.out⟩ | exact ⟨by simp,HX.out⟩
 ·have h2:1024<s:=h.resolve_left h1
  clear h
  go_enter Tryz.func6,Tryz.ntmps6
  go_wp2_with fail
  refine bodyPost_ret (v:=.tuple #[aD w.heap.size 0,.bool false]) (by simp [results,Tryz.results6,go_sem]) rfl ?_
  first | exact ⟨_,rfl,HX.out⟩ | exact ⟨rfl,HX.out⟩ | exact ⟨by simp,HX.out⟩
theorem zkX (V:World) (o:Obj) (v:Value) (t:TypeId):∀j u,([v]:List Value)[j]?=some u→((V.alloc o).alloc (.cells #[v] t)).drew.cell? ((⟨V.heap.size+1,0,none⟩:Addr).add j)=some u:=by
 intro j u hu
 show ((V.alloc o).alloc (.cells #[v] t)).cell? _=_
 rw [Addr.add_lit,Nat.zero_add,show V.heap.size+1=(V.alloc o).heap.size by simp,World.cell?_alloc_new]
 exact (List.getElem?_toArray ..).trans hu
theorem zrf (V:World) (v:Value) (t:TypeId):∀j u,([v]:List Value)[j]?=some u→(V.alloc (.cells #[v] t)).cell? ((⟨V.heap.size,0,none⟩:Addr).add j)=some u:=by
 intro j u hu
 rw [Addr.add_lit,Nat.zero_add,World.cell?_alloc_new]
 exact (List.getElem?_toArray ..).trans hu
theorem ztM (a c:Nat):∀u∈([.slice (some ⟨a,0,none⟩) 64 c]:List Value),u.oneCell'=true:=by
 intro u hu
 rw [List.mem_singleton.1 hu]
 rfl
theorem zuT (b:Bool):∀u∈([.bool b]:List Value),u.oneCell'=true:=by
 intro u hu
 rw [List.mem_singleton.1 hu]
 rfl
section
variable {w wr w4:World} {d:Nat} {p:Nat→Nat} {vr vm vl:Value} {RB MB:List (Nat × Nat)} {a b c:Nat}
theorem NewAt.zero (h:NewAt w wr d p vr vm vl RB MB a b c) (r:Nat) (v:Value) (t:TypeId):NewAt w ((wr.alloc zbq).alloc (.cells #[v] t)).drew d (part p wr.heap.size r) vr vm vl RB MB a b c∧Byt ((wr.alloc zbq).alloc (.cells #[v] t)).drew (wr.heap.size,64) z64:=by
 have e:Ext wr ((wr.alloc zbq).alloc (.cells #[v] t)).drew:=(((Ext.refl wr).alloc _).alloc _).drew
 refine ⟨h.recast (zef (Nat.le_refl _)) (fun k hk=>?_) e,(zbyt wr).mod (F:=fun _=>False) (Mod.of_ext (((Ext.refl _).alloc _).drew)) fun h=>h⟩
 rcases zbe hk with rfl | hk
 ·exact .inr ⟨Nat.le_refl _,by show wr.heap.size<((wr.alloc zbq).alloc (.cells #[v] t)).heap.size;simp;omega⟩
 ·exact .inl hk
theorem NewAt.cellsAt (h:NewAt w wr d p vr vm vl RB MB a b c) {w2:World} (k:Ext wr w2):(CW.mk w2 d [vr,vm,vl]:Prop):=by
 have h2:=(h.ext_ k).hd
 exact ⟨cell_of_row w2 d 0 _ _ _ h2,cell_of_row w2 d 1 _ _ _ h2,cell_of_row w2 d 2 _ _ _ h2⟩
theorem NewAt.afterG (h:NewAt w wr d p vr vm vl RB MB a b c) {v0:Value} {r:Nat} (h0:∀k,v0.ownBlock=some k→p k=r) (hr:2≤r) (hg:wr.grownBy w4 v0.ownBlock):((CW.mk w4 d [vr,vm,vl]:Prop))∧(∀i,w4.frozen? (aD d i)=false)∧d<w4.heap.size:=by
 have hdp:¬v0.ownBlock=some d:=fun e=>by have:=h0 d e;have:=h.pd;omega
 have h2:=(hg.block d h.dlt (fun e=>hdp e.symm)).trans h.hd
 exact ⟨⟨cell_of_row w4 d 0 _ _ _ h2,cell_of_row w4 d 1 _ _ _ h2,cell_of_row w4 d 2 _ _ _ h2⟩,fun i=>frozen_of_row w4 d i _ _ h2,Nat.lt_of_lt_of_le h.dlt hg.size⟩
end
theorem zqb (n:Nat) (w:World) (h1:1≤n) (h2:n≤1024):Calls Tryz.prog 6 #[.int .i64 n] w fun e w'=>∃d p,e=.returned (.tuple #[aD d 0,.bool true])∧RD w' d p (DM.new n)∧(∀k,p k≠0→w.heap.size≤k)∧Ext w w':=by
 have hst:NewAt w (w.alloc (.cells Zk.n 65)) w.heap.size (part (fun _=>0) w.heap.size 1) (.slice none 0 0) (.slice none 0 0) (.slice none 0 0) [] [] 0 0 0 :=
  ⟨heap_alloc_new w _,World.ownsRow_nil _ _ _ _,World.ownsRow_nil _ _ _ _,World.ownsRow_nil _ _ _ _,fun j x hx=>(by simp at hx),fun j x hx=>(by simp at hx),zbI _ _ _,fun k hk=>(by cases hk),fun k hk=>(by cases hk),fun k hk=>(by cases hk),fun k hk=>by
   rcases zbe hk with rfl | hk
   ·exact ⟨Nat.le_refl _,by simp⟩
   ·exact absurd rfl hk,(Ext.refl w).alloc _⟩
 have HST:=qj hst
 have hmk:=mk64
 clear hst
 go_enter Tryz.func6,Tryz.ntmps6
 go_wp2_with fail
 generalize hd0:w.heap.size=d at *
 have HD0:=qj hd0
 clear hd0
 go_loopw [5] (fun i wr=>∃(k:Nat) (p:Nat→Nat) (vr vm vl:Value) (RB MB:List (Nat × Nat)),k≤n∧i=.int .i64 k∧Hid (NewAt w wr d p vr vm vl RB MB k k k)) (fun i _=>n-(intOf i).toNat)
 case atStart=>exact ⟨0,_,_,_,_,_,_,Nat.zero_le _,rfl,HST⟩
 case round =>
  obtain ⟨k,p,vr,vm,vl,RB,MB,hk,rfl,HN⟩:=hrel
  by_cases hlt:k<n
  ·have hz:=(HN.out).zero (7+k) (.slice (some ⟨wr.heap.size,0,none⟩) 64 64) 45
   have HZ:=qj hz
   have c0:=(HN.out.cellsAt (Ext.refl wr).drew).1
   have c1:=(HN.out.cellsAt (((Ext.refl wr).alloc zbq).drew)).1
   have c2:=(HN.out.cellsAt ((((Ext.refl wr).alloc zbq).alloc (.cells #[.slice (some ⟨wr.heap.size,0,none⟩) 64 64] 45)).drew)).1
   have HNEWS:=qj (zkX wr zbq (.slice (some ⟨wr.heap.size,0,none⟩) 64 64) 45)
   have HONE:=qj (ztM wr.heap.size 64)
   clear hz
   go_wp2_with fail
   go_region_law (first
    | (refine step_append_lies _ rfl _ _ 62 rfl 0 45 (Classical.choose (info_parts zci)) (.slice none 0 0) 1 24 Tryz.underlying62 (Classical.choose_spec (info_parts zci)).1 (Classical.choose_spec (info_parts zci)).2.1 (Classical.choose_spec (info_parts zci)).2.2.1 (Classical.choose_spec (info_parts zci)).2.2.2 rfl (by decide) vr k (RB.map slV) rfl HZ.out.1.rr ⟨wr.heap.size+1,0,none⟩ 1 1 [.slice (some ⟨wr.heap.size,0,none⟩) 64 64] rfl rfl HNEWS.out HONE.out (by omega) (by unfold maxLen;omega) (by omega) (Nat.zero_le _) (wr.heap.size+1+1) (by simp) ?_;intro bk cap w4 hown hgrow hat hlt4;have HG4:=qj hgrow;have HO4:=qj hown;have HT4:=qj hat;have HL4:=qj hlt4;obtain ⟨⟨g0,_,_⟩,gf,gl⟩:=HZ.out.1.afterG HZ.out.1.pr (by omega) hgrow;have gf0:=gf 0;clear hown hgrow hat))
   all_goals
    have hs2:((wr.alloc zbq).alloc (.cells #[.slice (some ⟨wr.heap.size,0,none⟩) 64 64] 45)).drew.heap.size=wr.heap.size+1+1:=by show ((wr.alloc zbq).alloc _).heap.size=_;simp
    have hN1:=HZ.out.1.stepR HZ.out.2 (zbI _ _ _) HO4.out HG4.out (HT4.out.imp id fun e=>by rw [hs2];exact e) HL4.out
    obtain ⟨X1,hX1⟩:∃X,w4.setCell (aD d 0) (.slice (some ⟨bk,0,none⟩) (k+1) cap)=X:=⟨_,rfl⟩
    rw [hX1] at hN1
    rw [hX1]
    obtain ⟨p1,vr1,RB1,HN1⟩:∃p1 v R,Hid (NewAt w X1 d p1 v vm vl R MB (k+1) k k):=⟨_,_,_,qj hN1⟩
    have hz:=(HN1.out).zero 6 (.slice (some ⟨X1.heap.size,0,none⟩) 64 64) 45
    have HZ1:=qj hz
    have c0:=(HN1.out.cellsAt (Ext.refl X1).drew).2.1
    have c1:=(HN1.out.cellsAt (((Ext.refl X1).alloc zbq).drew)).2.1
    have c2:=(HN1.out.cellsAt ((((Ext.refl X1).alloc zbq).alloc (.cells #[.slice (some ⟨X1.heap.size,0,none⟩) 64 64] 45)).drew)).2.1
    have HNEWS:=qj (zkX X1 zbq (.slice (some ⟨X1.heap.size,0,none⟩) 64 64) 45)
    have HONE:=qj (ztM X1.heap.size 64)
    clear hz hN1 hX1 hs2 g0 gf gf0 gl HG4 HO4 HT4 HL4 hlt4 HZ HN
    go_wp2_with fail
    go_region_law (first
     | (refine step_append_lies _ rfl _ _ 62 rfl 0 45 (Classical.choose (info_parts zci)) (.slice none 0 0) 1 24 Tryz.underlying62 (Classical.choose_spec (info_parts zci)).1 (Classical.choose_spec (info_parts zci)).2.1 (Classical.choose_spec (info_parts zci)).2.2.1 (Classical.choose_spec (info_parts zci)).2.2.2 rfl (by decide) vm k (MB.map slV) rfl HZ1.out.1.rm ⟨X1.heap.size+1,0,none⟩ 1 1 [.slice (some ⟨X1.heap.size,0,none⟩) 64 64] rfl rfl HNEWS.out HONE.out (by omega) (by unfold maxLen;omega) (by omega) (Nat.zero_le _) (X1.heap.size+1+1) (by simp) ?_;intro bk2 cap2 w5 hown hgrow hat hlt5;have HG5:=qj hgrow;have HO5:=qj hown;have HT5:=qj hat;have HL5:=qj hlt5;obtain ⟨⟨_,g1,_⟩,gf,gl⟩:=HZ1.out.1.afterG HZ1.out.1.pm (by omega) hgrow;have gf0:=gf 1;clear hown hgrow hat))
    all_goals
     have hs2:((X1.alloc zbq).alloc (.cells #[.slice (some ⟨X1.heap.size,0,none⟩) 64 64] 45)).drew.heap.size=X1.heap.size+1+1:=by show ((X1.alloc zbq).alloc _).heap.size=_;simp
     have hN2:=HZ1.out.1.stepM HZ1.out.2 (zbI _ _ _) HO5.out HG5.out (HT5.out.imp id fun e=>by rw [hs2];exact e) HL5.out
     obtain ⟨X2,hX2⟩:∃X,w5.setCell (aD d 1) (.slice (some ⟨bk2,0,none⟩) (k+1) cap2)=X:=⟨_,rfl⟩
     rw [hX2] at hN2
     rw [hX2]
     obtain ⟨p2,vm2,MB2,HN2⟩:∃p2 v R,Hid (NewAt w X2 d p2 vr1 v vl RB1 R (k+1) (k+1) k):=⟨_,_,_,qj hN2⟩
     have c0:=(HN2.out.cellsAt (Ext.refl X2)).2.2
     have c1:=(HN2.out.cellsAt ((Ext.refl X2).alloc (.cells #[.bool false] 4))).2.2
     have HN3:=qj (HN2.out.ext_ ((Ext.refl X2).alloc (.cells #[.bool false] 4)))
     obtain ⟨bi,bh,bz0,bz1,bz2⟩:=info_parts ztq
     have HNEWS:=qj (zrf X2 (.bool false) 4)
     have HONE:=qj (zuT false)
     clear hN2 hX2 hs2 g1 gf gf0 gl HG5 HO5 HT5 HL5 hlt5 HZ1 HN1
     go_wp2_with (at_builtin;refine wpList_append_lies _ rfl _ _ 46 rfl 0 4 bi (.bool false) 1 1 Tryz.underlying46 bh bz0 bz1 bz2 rfl (by decide) vl k (List.replicate k (.bool false)) rfl HN3.out.rl ⟨X2.heap.size,0,none⟩ 1 1 [.bool false] rfl rfl HNEWS.out HONE.out (by omega) (by unfold maxLen;omega) (by omega) (Nat.zero_le _) (X2.heap.size+1) (by simp) ?_;intro bk3 cap3 w6 hown hgrow hat hlt6;have HG6:=qj hgrow;have HO6:=qj hown;have HT6:=qj hat;have HL6:=qj hlt6;obtain ⟨⟨_,_,g2⟩,gf,gl⟩:=HN3.out.afterG HN3.out.pl (by omega) hgrow;have gf0:=gf 2;clear hown hgrow hat)
     all_goals
      have hs2:(X2.alloc (.cells #[.bool false] 4)).heap.size=X2.heap.size+1:=by simp
      have hN4:=HN3.out.stepL HO6.out HG6.out (HT6.out.imp id fun e=>by rw [hs2];exact e) HL6.out
      have HN4:=qj hN4
      clear hN4 hs2 g2 gf gf0 gl HG6 HO6 HT6 HL6 hlt6 HN3 HN2 c0 c1 c2
      go_wp2_with fail
      go_roundw
      case rel=>exact ⟨k+1,_,_,_,_,_,_,by omega,by go_num,HN4⟩
      case measure=>simp [intOf];omega
  ·obtain rfl:k=n:=by omega
   have HDN:=qj (HN.out.done h1 h2)
   go_wp2_with fail
   refine bodyPost_ret (v:=.tuple #[aD d 0,.bool true]) (by simp [results,Tryz.results6,go_sem]) rfl ?_
   exact ⟨_,_,rfl,HDN.out,fun i hi=>by have:=(HN.out.lt i hi).1;have:=HD0.out;omega,HN.out.ext⟩
theorem zuA {w wr:World} {A:Option Addr} {n c:Nat} {l:List Bool} {F:Nat→Prop} (h:Vs w w.heap.size A n c (l.map .bool)) (k:Mod F w wr) (ho:0<n→Off F A) {i:Nat} (hi:i<n):∃g o b,A=some ⟨g,o,none⟩∧l[i]?=some b∧wr.cell? (aD g (o+i))=some (.bool b):=by
 obtain ⟨g,o,e,hg,hc⟩:=h.rd (by omega)
 have hl:i<l.length:=by have:=h.len;rw [List.length_map] at this;omega
 refine ⟨g,o,l[i],e,List.getElem?_eq_getElem hl,?_⟩
 rw [World.cell?_of_block (a:=⟨g,o+i,none⟩) (k.block g hg (ho (by omega) _ e))]
 exact hc i _ (by rw [List.getElem?_map,List.getElem?_eq_getElem hl];rfl)
theorem zpc {l:List (Nat × List Nat)} {kl:List Bool}:∀{k:Nat},kl.length≤k→k≤l.length→kept (l.take k) kl=kept l kl:=by
 intro k hk hl
 have key:∀j,k+j≤l.length→kept (l.take (k+j)) kl=kept (l.take k) kl:=fun j=>by
  induction j with
  | zero=>intro _;rfl
  | succ j ih =>
   intro hj
   obtain ⟨x,hx⟩:∃x,l[k+j]?=some x:=⟨_,List.getElem?_eq_getElem (by omega)⟩
   rw [show k+(j+1)=(k+j)+1 by omega,zgd hx,if_neg (by rw [List.getElem?_eq_none (by omega)];simp),ih (by omega)]
 have:=key (l.length-k) (by omega)
 rw [show k+(l.length-k)=l.length by omega,List.take_length] at this
 exact this.symm
section
variable {w:World} {d:Nat} {p:Nat→Nat} {m:DM}
theorem zmk (h:RD w d p m) (_hfew:m.waits.length≤1000000) (kA:Option Addr) (kn kc:Nat) (kl:List Bool) (hk:Vs w w.heap.size kA kn kc (kl.map .bool)) (ho:0<kn→Off (fun i=>p i≠0) kA):Calls Tryz.prog 100 #[aD d 0,.slice kA kn kc] w fun e w'=>e=.returned (.int .i64 (m.crash kl).1)∧ROut d p w (m.crash kl).2 w':=by
 obtain ⟨⟨q,hq⟩,hlt⟩:=h
 obtain ⟨⟨_,_,_,d3,d4,d5,_⟩,_⟩:=hq.head.cells
 have HQ:=qj hq
 have HLT:=qj hlt
 have hkl:kl.length=kn:=by have:=hk.len;rw [List.length_map] at this;exact this
 have hkc:=hk.cap
 have hkm:=hk.most
 by_cases hd:m.down=true
 ·have HE:Hid (m.crash kl=(5,m)):=qj (by unfold DM.crash;rw [if_pos hd])
  rw [hd] at d4
  clear hd hq hlt
  go_enter Tryz.func100,Tryz.ntmps100
  go_wp2_with fail
  go_ret
  rw [HE.out]
  exact ⟨rfl,p,⟨⟨q,HQ.out⟩,HLT.out⟩,Mod.refl _ _,fun k hk=>.inl hk⟩
 ·have HE:Hid (m.crash kl=(0,{ m.comes (kept m.waits kl) with waits:=[],down:=true })):=qj (by unfold DM.crash;rw [if_neg hd])
  have hd':m.down=false:=by simpa using hd
  rw [hd'] at d4
  have HG1:Hid (RGo w w d p p m):=qj ⟨⟨⟨q,hq⟩,hlt⟩,Mod.refl _ _,fun k hk=>.inl hk⟩
  have HK:=qj hk
  have HO:=qj ho
  have HKL:=qj hkl
  obtain ⟨N,hN⟩:∃N,m.waits.length=N:=⟨_,rfl⟩
  have HN:=qj hN
  rw [hN] at _hfew
  have HDN:=qj hd'
  clear hd hd' hq hlt hN hk ho hkl d3
  go_enter Tryz.func100,Tryz.ntmps100
  go_wp2_with fail
  go_loopw [5] (fun i wr=>∃(k:Nat) (p':Nat→Nat),k≤N∧k≤kn∧i=.int .i64 k∧Hid (RGo w wr d p p' (m.comes (kept (m.waits.take k) kl)))) (fun i _=>N-(intOf i).toNat)
  case atStart=>exact ⟨0,p,Nat.zero_le _,Nat.zero_le _,rfl,qj (by rw [show kept (m.waits.take 0) kl=[] by simp [kept]];exact HG1.out)⟩
  case round =>
   obtain ⟨k,p',hk,hkn,rfl,HG⟩:=hrel
   obtain ⟨⟨q',hq'⟩,hlt'⟩:=HG.out.rd
   have hcw:=DM.comes_waits (kept (m.waits.take k) kl) m
   have hwl:(m.comes (kept (m.waits.take k) kl)).waits.length=N:=by rw [hcw.1,HN.out]
   obtain ⟨⟨_,_,_,e3,e4,_⟩,ef⟩:=hq'.head.cells
   have ef3:=ef 3
   have ef4:=ef 4
   have hpl:∃A c,q'.pv=.slice A N c:=by
    obtain ⟨A,c,e,_,_⟩:=zeo hq'.pen
    exact ⟨A,c,by rw [e,hwl]⟩
   obtain ⟨pA,pc,hpv⟩:=hpl
   by_cases hlt2:k<N∧k<kn
   ·obtain ⟨hN2,hK2⟩:=hlt2
    obtain ⟨g,c,x,y,e1,hx,hy,c0,c1,h6,hby,hxs,hsec⟩:=hq'.waitAt (k:=k) (by omega)
    rw [e1,hwl] at e3
    have hx':m.waits[k]?=some x:=by rw [hcw.1] at hx;exact hx
    obtain ⟨g2,o2,b,rfl,hb,hbc⟩:=zuA HK.out HG.out.mod HO.out hK2
    have hst:=zgd hx' kl
    unfold slV at c1
    have i0:(0:Int)≤(k:Int):=by omega
    have i1:(k:Int)<(N:Int):=by omega
    have i2:(k:Int)<(kn:Int):=by omega
    cases b with
    | true =>
     have HC:=qj (zhG hq' hlt' h6 hby hxs hsec)
     have HX:=qj (show m.comes (kept (m.waits.take (k+1)) kl)=(m.comes (kept (m.waits.take k) kl)).come x by rw [hst,if_pos hb,zdH])
     clear hq' hlt' hcw hwl ef ef3 ef4 hpv e1 hx hy h6 hby hxs hsec hx' hb hst e4
     go_wp2_with fail
     refine HC.out.mono ?_
     rintro e w2 ⟨⟨v,rfl⟩,hr⟩
     obtain ⟨p2,hg2⟩:=HG.out.step hr
     have HG2:=qj hg2
     clear hr hg2
     go_wp2_with fail
     go_roundw
     case rel=>exact ⟨k+1,p2,by omega,by omega,by go_num,by rw [HX.out];exact HG2⟩
     case measure=>simp [intOf];omega
    | false =>
     have HX:=qj (show m.comes (kept (m.waits.take (k+1)) kl)=m.comes (kept (m.waits.take k) kl) by rw [hst,if_neg (by rw [hb];simp)])
     clear hq' hlt' hcw hwl ef ef3 ef4 hpv e1 hx hy h6 hby hxs hsec hx' hb hst e4
     go_wp2_with fail
     go_roundw
     case rel=>exact ⟨k+1,p',by omega,by omega,by go_num,by rw [HX.out];exact HG⟩
     case measure=>simp [intOf];omega
   ·have HT:Hid (kept (m.waits.take k) kl=kept m.waits kl):=qj (by
     by_cases hkN:k<N
     ·exact zpc (by rw [HKL.out];omega) (by rw [HN.out];omega)
     ·rw [List.take_of_length_le (by rw [HN.out];omega)])
    have HQ':=qj hq'
    have HL':=qj hlt'
    have hld:=hq'.lts.1
    rw [hpv] at e3
    have e4':wr.cell? (aD d 4)=some (.bool false):=by rw [e4,hcw.2.1,HDN.out]
    have fin:ROut d p w { m.comes (kept m.waits kl) with waits:=[],down:=true } ((wr.setCell (aD d 3) (.slice none 0 0)).setCell (aD d 4) (.bool true)):=by
     have hq2:=HQ'.out
     have hg2:=HG.out
     rw [HT.out] at hq2 hg2
     have kk:Mod (fun i=>i=d) wr ((wr.setCell (aD d 3) (.slice none 0 0)).setCell (aD d 4) (.bool true)):=(zaQ wr d 3 (.slice none 0 0)).setCell (p:=⟨d,4,none⟩) (.inl rfl) _
     refine ⟨p',⟨⟨_,hq2.clear kk ⟨zae 4 (zae 3 hq2.head.head _ rfl) _ rfl,hq2.head.n1⟩ rfl rfl rfl rfl rfl⟩,fun i hi=>by have:=HL'.out i hi;simpa [World.setCell] using this⟩,hg2.mod.trans kk (fun i hi=>?_),hg2.nz⟩
     rw [hi]
     exact .inl (by rw [HQ.out.pd];omega)
    have HF:=qj fin
    clear hq' hlt' hcw hwl ef hpv e4 fin
    by_cases hkN:k<N
    ·have hkn2:¬k<kn:=fun h=>hlt2 ⟨hkN,h⟩
     clear hlt2
     go_wp2_with fail
     go_ret
     rw [HE.out]
     exact ⟨rfl,HF.out⟩
    ·clear hlt2
     go_wp2_with fail
     go_ret
     rw [HE.out]
     exact ⟨rfl,HF.out⟩
end
theorem RDq.setByte {w:World} {d:Nat} {p:Nat→Nat} {q:Nm} {m:DM} (h:RDq w d p q m) {j k:Nat} {x:Nat × Nat} (hj:j<m.size) (hx:q.RB[j]?=some x) {b:List Nat} {v:Nat} (hb:Sect b) (he:(vb (m.rest.getD j [])).set k v=vb b):RDq (w.setCell (aD x.1 k) v) d p q { m with rest:=m.rest.set j b }:=by
 have hp:=(h.rb j x hx).1
 have kk:=zaQ w x.1 k v
 have hs:({ m with rest:=m.rest.set j b }:DM).size=m.size:=by simp [DM.size]
 have ne:∀i r,p i=r→r≠7+j→¬i=x.1:=fun i r hi hr e=>by rw [e,hp] at hi;omega
 have own:=fun {e s n:Nat} {v:Value} {xs:List Value} (ho:w.ownsRow 0 e s v n xs) (r:Nat) (hr:r≠7+j) (hv:∀i,v.ownBlock=some i→p i=r)=>zas ho kk fun i hi=>ne i r (hv i hi) hr
 refine ⟨⟨by rw [hs];exact h.ok.meant,by rw [hs];exact h.ok.lost,zby h.ok.rests hb,h.ok.means,by rw [hs];exact h.ok.waits,h.ok.power⟩,?_,?_,?_,?_,?_,?_,h.wl,?_,own h.pen 5 (by omega) h.pp,h.pd,h.pr,h.pm,h.pl,h.pp,h.few⟩
 ·have:=h.head.mod kk (ne d 1 h.pd (by omega))
  exact ⟨by rw [hs];exact this.head,by rw [hs];exact this.n1⟩
 ·rw [hs];exact own h.rr 2 (by omega) fun i hi=>by injection hi with hi;subst hi;exact h.pr
 ·rw [hs];exact own h.rm 3 (by omega) fun i hi=>by injection hi with hi;subst hi;exact h.pm
 ·rw [hs];exact own h.rl 4 (by omega) fun i hi=>by injection hi with hi;subst hi;exact h.pl
 ·intro i y hy
  refine ⟨(h.rb i y hy).1,?_⟩
  show Byt _ _ ((m.rest.set j b).getD i [])
  rw [zdp (by exact hj)]
  by_cases hij:j=i
  ·subst hij
   rw [hx] at hy
   injection hy with hy
   subst hy
   rw [if_pos rfl]
   have hst:=(World.ownsRow.stored (g:=x.1) (cap:=x.2) (h.rb j x hx).2 k v).1
   rw [he] at hst
   exact hst
  ·rw [if_neg hij]
   exact (h.rb i y hy).2.mod kk (ne _ _ (h.rb i y hy).1 (by omega))
 ·intro i y hy
  exact ⟨(h.mb i y hy).1,(h.mb i y hy).2.mod kk (ne _ _ (h.mb i y hy).1 (by omega))⟩
 ·intro i y hy
  exact ⟨(h.wb i y hy).1,(h.wb i y hy).2.mod kk (ne _ _ (h.wb i y hy).1 (by omega))⟩
theorem zor {w:World} {d:Nat} {p:Nat→Nat} {m:DM} (h:RD w d p m) (s bit:Int) (hbit:bit≤9223372036854775807):Calls Tryz.prog 102 #[aD d 0,s,bit] w fun e w'=>e=.returned (.int .i64 (m.flip s bit).1)∧ROut d p w (m.flip s bit).2 w':=by
 obtain ⟨⟨q,hq⟩,hlt⟩:=h
 have hh:=zel hq.head s
 have HQ:=qj hq
 have HLT:=qj hlt
 by_cases hs:m.has s=false
 ·rw [hs] at hh
  have HH:=qj hh
  have HE:Hid (m.flip s bit=(2,m)):=qj (by unfold DM.flip;rw [if_pos (.inl hs)])
  clear hh hs hq hlt
  go_enter Tryz.func102,Tryz.ntmps102
  go_wp2_with fail
  refine HH.out.mono ?_
  rintro e w1 ⟨rfl,rfl⟩
  go_wp2_with fail
  go_ret
  rw [HE.out]
  exact ⟨rfl,p,⟨⟨q,HQ.out⟩,HLT.out⟩,Mod.refl _ _,fun k hk=>.inl hk⟩
 have hs':m.has s=true:=by simpa using hs
 rw [hs'] at hh
 have HH:=qj hh
 by_cases hb:bit<0
 ·have HE:Hid (m.flip s bit=(2,m)):=qj (by unfold DM.flip;rw [if_pos (.inr hb)])
  clear hh hs hs' hq hlt
  go_enter Tryz.func102,Tryz.ntmps102
  go_wp2_with fail
  refine HH.out.mono ?_
  rintro e w1 ⟨rfl,rfl⟩
  go_wp2_with fail
  go_ret
  rw [HE.out]
  exact ⟨rfl,p,⟨⟨q,HQ.out⟩,HLT.out⟩,Mod.refl _ _,fun k hk=>.inl hk⟩
 obtain ⟨s0,s1⟩:=DM.has_iff.1 hs'
 obtain ⟨j,rfl⟩:=Int.eq_ofNat_of_zero_le s0
 obtain ⟨bt,rfl⟩:=Int.eq_ofNat_of_zero_le (show 0≤bit by omega)
 have hj:j<m.size:=by omega
 obtain ⟨pk,hpk⟩:∃pk,bt%512=pk:=⟨_,rfl⟩
 have HE:Hid (m.flip (j:Int) (bt:Int)=(0,{ m with rest:=m.rest.set j (zaI (m.rest.getD j []) pk) })):=qj (by unfold DM.flip;rw [if_neg (fun h=>h.elim hs hb),Int.toNat_natCast,Int.toNat_natCast,hpk])
 have hp5:pk<512:=by omega
 have hmd:(bt:Int).tmod 512=(pk:Int):=by rw [Int.tmod_eq_emod_of_nonneg (by omega)];omega
 obtain ⟨x,hx,hxc,_,_⟩:=hq.restAt hj
 have hsec:Sect (m.rest.getD j []):=by
  have hil:j<m.rest.length:=hj
  rw [List.getD_eq_getElem?_getD,List.getElem?_eq_getElem hil,Option.getD_some]
  exact hq.ok.rests _ (List.getElem_mem hil)
 obtain ⟨kq,hqe⟩:∃q,pk/8=q:=⟨_,rfl⟩
 obtain ⟨kr,hre⟩:∃r,pk%8=r:=⟨_,rfl⟩
 obtain ⟨y,hy⟩:∃y,(m.rest.getD j [])[kq]?=some y:=⟨_,List.getElem?_eq_getElem (by rw [hsec.1];omega)⟩
 have hy2:y<256:=hsec.2 y (List.mem_of_getElem? hy)
 have hm8:kr<8:=by omega
 have hx8:=zna y kr hy2 hm8
 have HS:Hid ((vb (m.rest.getD j [])).set kq (.int .u8 ((y ^^^ 2 ^ kr:Nat):Int))=vb (zaI (m.rest.getD j []) pk)):=qj (by
  rw [ziM (by rw [hqe];exact hy),←zsd,hqe,hre])
 have HSC:Hid (Sect (zaI (m.rest.getD j []) pk)):=qj ⟨by rw [zcA];exact hsec.1,zlv _ hsec.2⟩
 have hqw:IntKind.i64.wrap ((pk:Int)/8)=(kq:Int):=by rw [IntWalk.i64_in _ (by omega)];omega
 have hrm:(pk:Int).tmod 8=(kr:Int):=by rw [Int.tmod_eq_emod_of_nonneg (by omega)];omega
 have hb0:(0:Int)≤(kq:Int):=by omega
 have hb1:(kq:Int)<64:=by omega
 have hm0:(0:Int)≤(kr:Int):=by omega
 have hwr:IntKind.u64.wrap (kr:Int)=(kr:Int):=by rw [IntKind.wrap_u64];omega
 have hb:=(hq.rb j x hx).2
 have hbc:w.cell? (aD x.1 kq)=some (.int .u8 (y:Int)):=by
  rw [World.ownsRow.cellAt (g:=x.1) (cap:=x.2) hb kq (by omega),zdz,hy]
  rfl
 have hbf:w.frozen? (aD x.1 kq)=false:=World.ownsRow.frozenAt (g:=x.1) (cap:=x.2) hb kq
 have hbl:=hb.lt
 obtain ⟨⟨d0,_⟩,_⟩:=hq.head.cells
 have hsz:=hq.head.n1.2
 have hpx:=(hq.rb j x hx).1
 unfold slV at hxc
 have d0:w.drew.cell? (aD d 0)=some (.slice (some ⟨q.gr,0,none⟩) m.size q.cr):=d0
 have hxc:w.drew.cell? (aD q.gr j)=some (.slice (some ⟨x.1,0,none⟩) 64 x.2):=hxc
 have hbc:w.drew.cell? (aD x.1 kq)=some (.int .u8 (y:Int)):=hbc
 have hbf:w.drew.frozen? (aD x.1 kq)=false:=hbf
 have hbl:x.1<w.drew.heap.size:=hbl
 have HX:=qj hx
 have HJ:=qj hj
 have HPX:=qj hpx
 clear hh hs hs' hq hlt hx hsec hy hqe hre hb hpx hpk
 go_enter Tryz.func102,Tryz.ntmps102
 go_wp2_with fail
 refine HH.out.mono ?_
 rintro e w1 ⟨rfl,rfl⟩
 go_wp2_with fail
 refine zeP 26 (by kernel_rfl) (by kernel_rfl) ?_
 simp only [List.take_succ_cons,List.take_zero,List.drop_succ_cons,List.drop_zero]
 have HQd:=qj (HQ.out.ext (Ext.refl w).drew)
 have HMd:Hid (Mod (fun k=>p k≠0) w w.drew):=qj (Mod.drew (Mod.refl _ _))
 have HLd:Hid (∀k,p k≠0→k<w.drew.heap.size):=HLT
 generalize w.drew=w2 at *
 still_step
 still_step
 still_step
 still_step
 still_step
 still_step
 still_step
 still_step
 still_step
 still_step
 still_step
 still_step
 still_step
 still_step
 still_step
 still_step
 still_step
 still_step
 still_step
 still_step
 still_step
 still_step
 still_step
 still_step
 still_step
 still_step
 refine wpStill_nil ?_
 go_wp2_with (rw [hx8])
 go_ret
 rw [HE.out]
 exact ⟨rfl,p,⟨⟨q,HQd.out.setByte HJ.out HX.out HSC.out HS.out⟩,fun i hi=>by have:=HLd.out i hi;simpa [World.setCell] using this⟩,HMd.out.trans (zaQ w2 x.1 kq (.int .u8 ((y ^^^ 2 ^ kr:Nat):Int))) (fun i hi=>.inl (by rw [hi,HPX.out];omega)),fun k hk=>.inl hk⟩
def actV (a:Act5):Value:=.agg #[.int .u8 (a.kind:Int),.int .i64 a.sec,.int .i64 a.num,.slice a.bA a.bn a.bc,.slice a.kA a.kn a.kc]
theorem zpM (k x:Nat):vb (List.replicate k x)=List.replicate k (.int .u8 (x:Int)):=by simp [vb]
theorem zfQ {w:World} {b b' n:Nat} {e:TypeId} {s:Nat} {v:Value} {xs:List Value} (h:w.ownsRow b e s v n xs) (hb:b'≤b):w.ownsRow b' e s v n xs:=by
 refine ⟨h.1,?_⟩
 rcases h.2 with h0 | ⟨g,cap,cur,hv,hbg,h1⟩
 ·exact .inl h0
 ·exact .inr ⟨g,cap,cur,hv,Nat.le_trans hb hbg,h1⟩
theorem ziU (a:Act5) (w:World) (ha:a.Ok w w.heap.size) (hn:a.bn≤140737488355328) :
 Calls Tryz.prog 93 #[actV a] w fun e w'=>∃A n c,e=.returned (.slice A n c)∧w'.ownsRow w.heap.size 5 1 (.slice A n c) n (vb (actB a.num a.bl))∧Ext w w':=by
 unfold actV
 have hE:=(Ext.refl w).alloc (.cells #[a.kind,a.sec,a.num,.slice a.bA a.bn a.bc,.slice a.kA a.kn a.kc] 48)
 have hb:By w a.bA a.bn a.bc a.bl:=ha.bytes
 have HB:=qj (hb.ext hE)
 have HE:=qj hE
 have hlen:a.bl.length=a.bn:=hb.len
 have HLT:=qj hb.rd.lt
 by_cases h0:a.bn=0
 ·have hbl:a.bl=[]:=List.eq_nil_of_length_eq_zero (by omega)
  obtain ⟨x,hx⟩:∃x:Nat,IntKind.u8.wrap a.num=(x:Int)∧x=(a.num%256).toNat:=⟨(a.num%256).toNat,by rw [IntKind.wrap_u8];omega,rfl⟩
  have HX:Hid (actB a.num a.bl=List.replicate 64 x):=qj (by unfold actB;rw [if_pos hbl,hx.2])
  have hxw:=hx.1
  have hr0:=heap_alloc_new w (.cells #[a.kind,a.sec,a.num,.slice a.bA a.bn a.bc,.slice a.kA a.kn a.kc] 48)
  have HR:=qj hr0
  rw [h0] at *
  obtain ⟨i0,hi,hz0,hz1,hz2⟩:=info_parts zay
  clear h0 hbl hx hb ha hE hlen hr0 hn
  go_enter Tryz.func93,Tryz.ntmps93
  go_wp2_with fail
  have HE0:=qj ((Ext.refl w).alloc (.cells #[a.kind,a.sec,a.num,.slice a.bA 0 a.bc,.slice a.kA a.kn a.kc] 48))
  clear HB HE
  go_loopw [4,3] (fun i v wr=>∃k:Nat,k≤64∧i=.int .i64 k∧Hid (wr.ownsRow (w.heap.size+1) 5 1 v k (vb (List.replicate k x)))∧Hid (Ext w wr)∧w.heap.size<wr.heap.size∧Hid (wr.heap[w.heap.size]?=some (.cells #[a.kind,a.sec,a.num,.slice a.bA 0 a.bc,.slice a.kA a.kn a.kc] 48 (0,0)))) (fun i _ _=>64-(intOf i).toNat)
  case atStart=>exact ⟨0,by omega,rfl,qj (World.ownsRow_nil _ _ _ _),HE0,by simp,HR⟩
  case round =>
   obtain ⟨k,hk,rfl,HO,HX1,hlt0,HB⟩:=hrel
   have hc2:wr.cell? (aD w.heap.size 2)=some (.int .i64 a.num):=cell_of_row wr _ 2 _ _ _ HB.out
   by_cases hlt:k<64
   ·go_wp2_with (at_builtin;refine wpList_append_own _ rfl _ _ 45 rfl (w.heap.size+1) 5 i0 (.int .u8 0) 1 1 Tryz.underlying45 hi hz0 hz1 hz2 rfl (by decide) _ _ _ rfl (HO.out.alloc _) ⟨wr.heap.size,0,none⟩ 1 1 [x] rfl rfl ?c1 ?c2 ?c3 ?c4 ?c5 ?_)
    case c1 =>
     intro j u hj
     match j,hj with
     | 0,hj=>simp at hj;subst hj;simp [Addr.add]
    case c2=>intro u hu;simp at hu;subst hu;rfl
    case c3=>unfold maxLen;omega
    case c4=>omega
    case c5=>simp;omega
    intro v1 w1 hown hg _
    have ho:∀g,v1.ownBlock=some g→w.heap.size+1≤g:=fun g hg'=>(hown.lt g hg').1
    have hx2:Ext w w1:=Below.grown (HX1.out.alloc (.cells #[x] 5)) hg (by have:=HX1.out.size;simp;omega) (fun g hg'=>by have:=(HO.out.lt g hg').1;omega)
    have hb2:w1.heap[w.heap.size]?=some (.cells #[a.kind,a.sec,a.num,.slice a.bA 0 a.bc,.slice a.kA a.kn a.kc] 48 (0,0)) :=
     (hg.block _ (by simp;omega) (fun e=>by have:=(HO.out.lt _ e.symm).1;omega)).trans ((Below.heap_alloc _ _ _ hlt0).trans HB.out)
    have HO1:Hid (w1.ownsRow (w.heap.size+1) 5 1 v1 (k+1) (vb (List.replicate (k+1) x))):=qj (by
     rw [zpM,List.replicate_succ',←zpM]
     exact hown)
    have HX2:=qj hx2
    have HB2:=qj hb2
    have hlt1:w.heap.size<w1.heap.size:=(Array.getElem?_eq_some_iff.1 hb2).1
    clear hown hg hx2 hb2 ho hc2
    go_wp2_with fail
    go_roundw
    case rel=>exact ⟨k+1,by omega,by go_num,HO1,HX2,hlt1,HB2⟩
    case measure=>simp [intOf];omega
   ·obtain rfl:k=64:=by omega
    obtain ⟨A',c',hv,_,_⟩:=zbK HO.out
    subst hv
    go_wp2_with fail
    go_ret
    exact ⟨A',64,c',rfl,by rw [HX.out];exact zfQ HO.out (by omega),HX1.out⟩
 ·have hbl:a.bl≠[]:=fun e=>h0 (by rw [←hlen,e];rfl)
  have HX:Hid (actB a.num a.bl=a.bl):=qj (by unfold actB;rw [if_neg hbl])
  have hpos:(0:Int)<(a.bn:Int):=by omega
  clear h0 hbl hb ha hE hlen
  go_enter Tryz.func93,Tryz.ntmps93
  go_wp2_with fail
  refine (zcy _ _ _ _ _ HB.out hn).mono ?_
  rintro e w1 ⟨A',c',rfl,_,hx,hown⟩
  have HO:=qj hown
  have HX1:=qj (HE.out.trans hx)
  clear hx hown
  go_wp2_with fail
  go_ret
  exact ⟨A',a.bn,c',rfl,by rw [HX.out];exact zfQ HO.out (by simp),HX1.out⟩
end Go.Proofs.YtdbpdhlecgoclaaGreatDoor
