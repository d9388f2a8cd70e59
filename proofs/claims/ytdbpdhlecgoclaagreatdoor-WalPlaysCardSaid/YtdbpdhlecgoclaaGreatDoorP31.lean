/-
  The contracts of the document's Read and Parse of entries.
-/
import Derived.Test.YtdbpdhlecgoclaaGreatDoorP00
import Derived.Test.YtdbpdhlecgoclaaGreatDoorP27
import Derived.Test.YtdbpdhlecgoclaaGreatDoorP29
import Derived.Test.YtdbpdhlecgoclaaGreatDoorP30
import Derived.Deep.DeepCutAuto
import Derived.RegionTactic
import Derived.Deep.MidRow
namespace Go.Proofs.YtdbpdhlecgoclaaGreatDoor
set_option maxRecDepth 100000
set_option maxHeartbeats 6400000
open Go Go.RowKit
theorem ztH {w:World} {A:Option Addr} {n c k:Nat} {l:List Nat} (h:By w A n c l) (hk:k<n):∃g o x,A=some ⟨g,o,none⟩∧l[k]?=some x∧x<256∧w.cell? (aD g (o+k))=some (.int .u8 ((x:Nat):Int)):=by
 obtain ⟨g,o,x,h1,_,h2,h3,h4⟩:=h.rd.at_ (k:=k) (by rw [h.len];exact hk)
 exact ⟨g,o,x,h1,h2,h3,h4⟩
theorem zjy {w:World} {g o n c k x:Nat} {l:List Nat} (h:By w (some ⟨g,o,none⟩) n c l) (hk:l[k]?=some x):w.cell? (aD g (o+k))=some (.int .u8 ((x:Nat):Int))∧x<256:=by
 obtain ⟨g',o',x',h1,_,h2,h3,h4⟩:=h.rd.at_ (k:=k) (List.getElem?_eq_some_iff.1 hk).1
 rw [hk] at h2
 injection h2 with h2
 subst h2
 injection h1 with h1
 injection h1 with h1 h5
 subst h1 h5
 exact ⟨h4,h3⟩
theorem zgb {A:Option Addr} {n c a:Nat} {l:List Nat} {w:World} (hb:By w A n c l) (hn:n≤9000000000000000000) (ha:a≤l.length) (h:rdT l a=none) (ai:Int) (hai:ai=(a:Int)) :
 Calls Tryz.prog 170 #[.slice A n c,.int .i64 ai] w fun e w'=>(∃s,e=.returned (.tuple #[s,.int .i64 0,.int .i64 10]))∧w'=w:=by
 subst hai
 refine (ziG A l n c _ a w hb.len hb.cap hb.rd hn).mono ?_
 rw [zhA ha h]
 rintro e w' ⟨rfl,rfl⟩
 exact ⟨⟨_,rfl⟩,rfl⟩
theorem zeV {A:Option Addr} {n c a b:Nat} {s:ByteArray} {l:List Nat} {w:World} (hb:By w A n c l) (hn:n≤9000000000000000000) (ha:a≤l.length) (h:rdT l a=some (s,b)) (ai:Int) (hai:ai=(a:Int)) :
 Calls Tryz.prog 170 #[.slice A n c,.int .i64 ai] w fun e w'=>e=.returned (.tuple #[s,.int .i64 b,.int .i64 0])∧w'=w:=by
 subst hai
 refine (ziG A l n c _ a w hb.len hb.cap hb.rd hn).mono ?_
 obtain ⟨h1,h2,h3⟩:=zii ha h
 rw [h1,h2,h3]
 rintro e w' ⟨rfl,rfl⟩
 exact ⟨rfl,rfl⟩
theorem zmM {l:List Nat} {a b:Nat} {s:ByteArray} (ha:a≤l.length) (h:rdT l a=some (s,b)):b≤l.length:=by
 obtain ⟨n,_,h2,_,h4⟩:=zjF ha h
 omega
structure RRd (w:World) (A:Option Addr) (n c:Nat) (l:List Nat) (g:Nat) (cs ss:Array Value) (w':World):Prop where
 by_:By w' A n c l
 res:w'.heap[g]?=some (.cells #[.int .u8 0,.int .i64 0,.int .i64 0,.int .u8 0,.string ⟨#[]⟩,.string ⟨#[]⟩,.string ⟨#[]⟩] 42 (0,0))
 own:w'.heap[g+1]?=some (.cells cs 42 (0,0))
 txt:w'.heap[g+2]?=some (.cells ss 229 (0,0))
 ext:Ext w w'
 ge:w.heap.size≤g
 off:0<n→∀p,A=some p→p.block<g
section
variable {w w' w2:World} {n c g:Nat} {A:Option Addr} {l:List Nat} {cs ss:Array Value}
theorem RRd.ext2 (h:RRd w A n c l g cs ss w') (k:Ext w' w2):RRd w A n c l g cs ss w2:=⟨h.by_.ext k,zab h.res k,zab h.own k,zab h.txt k,h.ext.trans k,h.ge,h.off⟩
theorem RRd.putO (h:RRd w A n c l g cs ss w') (i:Nat) (v:Value) {ds:Array Value} (hd:ds=cs.setIfInBounds i v):RRd w A n c l g ds ss (w'.setCell (aD (g+1) i) v) :=
 ⟨zfH h.by_ (zaJ (g+1) i v) fun hn p hp hh=>by have:=h.off hn p hp;omega,zah h.res (zaJ (g+1) i v) (by omega),hd ▸ zch h.own v,zah h.txt (zaJ (g+1) i v) (by omega),h.ext.setCell (p:=⟨g+1,i,none⟩) (by have:=h.ge;dsimp only;omega) v,h.ge,h.off⟩
theorem RRd.putT (h:RRd w A n c l g cs ss w') (i:Nat) (v:Value) {ds:Array Value} (hd:ds=ss.setIfInBounds i v):RRd w A n c l g cs ds (w'.setCell (aD (g+2) i) v) :=
 ⟨zfH h.by_ (zaJ (g+2) i v) fun hn p hp hh=>by have:=h.off hn p hp;omega,zah h.res (zaJ (g+2) i v) (by omega),zah h.own (zaJ (g+2) i v) (by omega),hd ▸ zch h.txt v,h.ext.setCell (p:=⟨g+2,i,none⟩) (by have:=h.ge;dsimp only;omega) v,h.ge,h.off⟩
end
theorem zdD {w:World} {g:Nat} {x0 x1 x2:Value} {t:TypeId} (h:w.heap[g]?=some (.cells #[x0,x1,x2] t (0,0))) :
 ((CW.mk w g [x0,x1,x2]:Prop))∧(w.frozen? (aD g 0)=false∧w.frozen? (aD g 1)=false∧w.frozen? (aD g 2)=false) :=
 ⟨zfh h,frozen_of_row w g 0 _ _ h,frozen_of_row w g 1 _ _ h,frozen_of_row w g 2 _ _ h⟩
theorem zqU (g' o n c k:Nat) (l:List Nat) (w:World) (hb:By w (some ⟨g',o,none⟩) n c l) (hn:n≤9000000000000000000) (h2:l[k]?=some 2) (h9:k+9≤n) :
 (cL 137 #[.slice (some ⟨g',o,none⟩) n c,.int .i64 k] w (.tuple #[.agg (rdE l k).1,.int .i64 ((rdE l k).2.1:Int),.int .i64 (rdE l k).2.2]):Prop):=by
 have hlen:=hb.len
 obtain ⟨x1,hx1⟩:∃x,l[k+1]?=some x:=⟨_,List.getElem?_eq_getElem (by omega)⟩
 obtain ⟨x8,hx8⟩:∃x,l[k+8]?=some x:=⟨_,List.getElem?_eq_getElem (by omega)⟩
 have hx:=(Ext.refl w).alloc (.cells Zk.d 42)
 have HQ:=qj (heap_alloc_new w (.cells Zk.d 42))
 have HB:=qj (hb.ext hx)
 have HE:=qj hx
 obtain ⟨c0,_⟩:=zjy HB.out h2
 obtain ⟨c1,b1⟩:=zjy HB.out hx1
 obtain ⟨sn,hsn⟩:∃sn,num ((l.drop (k+2)).take 6)=sn:=⟨_,rfl⟩
 have HG:Hid (getS l ((k:Int)+2) 6=(sn,k+8,0)):=qj (by
  have h:=znp (l:=l) (a:=k+2) (w:=6) rfl (by omega)
  rw [zbM (by omega)] at h
  rw [hsn] at h
  simpa using h)
 have e0:decide ((n:Int)<(k:Int))=false:=decide_eq_false (by omega)
 have e1:((k:Int) == (n:Int))=false:=by rw [beq_eq_false_iff_ne];omega
 have e2:decide ((n:Int)-(k:Int)<9)=false:=decide_eq_false (by omega)
 have HX8:=qj hx8
 have HX1:=qj hx1
 have HOFF:Hid (0<n→∀p,(some (⟨g',o,none⟩:Addr))=some p→p.block<w.heap.size):=qj fun h0 p hp=>by
  obtain ⟨g2,o2,e,hg,_⟩:=hb.rd.2 (by rw [hlen];exact h0)
  rw [hp] at e
  injection e with e
  rw [e]
  exact hg
 have HSN:=qj hsn
 clear hx hb hx1 hx8 hsn
 go_enter Tryz.func137,Tryz.ntmps137
 go_wp2_with fail
 have hx2:=(Ext.refl (w.alloc (.cells Zk.d 42))).alloc (.cells #[.int .u8 2,.int .i64 x1,.int .i64 0,.int .u8 0,.string ⟨#[]⟩,.string ⟨#[]⟩,.string ⟨#[]⟩] 42)
 have HQ:=qj (zab HQ.out hx2)
 have HB:=qj (HB.out.ext hx2)
 have HE:=qj (HE.out.trans hx2)
 have HO:=qj (heap_alloc2_new w (.cells Zk.d 42) (.cells #[.int .u8 2,.int .i64 x1,.int .i64 0,.int .u8 0,.string ⟨#[]⟩,.string ⟨#[]⟩,.string ⟨#[]⟩] 42))
 have hoff:0<n→∀p,(some (⟨g',o,none⟩:Addr))=some p→p.block<w.heap.size:=HOFF.out
 have hWs:((w.alloc (.cells Zk.d 42)).alloc (.cells #[.int .u8 2,.int .i64 x1,.int .i64 0,.int .u8 0,.string ⟨#[]⟩,.string ⟨#[]⟩,.string ⟨#[]⟩] 42)).heap.size=w.heap.size+2:=by simp
 generalize ((w.alloc (.cells Zk.d 42)).alloc (.cells #[.int .u8 2,.int .i64 x1,.int .i64 0,.int .u8 0,.string ⟨#[]⟩,.string ⟨#[]⟩,.string ⟨#[]⟩] 42))=W at *
 generalize hg:w.heap.size=g at *
 clear c0 c1 e0 e1 e2 hx2
 refine (zbT _ l n c _ _ _ _ HB.out.len HB.out.rd hn).mono ?_
 rw [HG.out]
 rintro e w' ⟨rfl,rfl⟩
 obtain ⟨_,_,c2,c3,_⟩:=zaf HO.out
 obtain ⟨_,_,f2,f3,_⟩:=zan HO.out
 have hlg:g+1<W.heap.size:=(Array.getElem?_eq_some_iff.1 HO.out).1
 have HO:=qj (show (W.setCell (aD (g+1) 2) (.int .i64 (sn:Int))).heap[g+1]?=some (.cells #[.int .u8 2,.int .i64 x1,.int .i64 sn,.int .u8 0,.string ⟨#[]⟩,.string ⟨#[]⟩,.string ⟨#[]⟩] 42 (0,0)) from zch HO.out (.int .i64 (sn:Int)))
 have HQ:=qj (zah HQ.out (zaJ (g+1) 2 (.int .i64 (sn:Int))) (by omega))
 have HE:=qj (show Ext w (W.setCell (aD (g+1) 2) (.int .i64 (sn:Int))) from HE.out.setCell (p:=⟨g+1,2,none⟩) (by dsimp only;omega) (.int .i64 (sn:Int)))
 have HB:=qj (zfH HB.out (zaJ (g+1) 2 (.int .i64 (sn:Int))) fun h0 p hp hh=>by have:=hoff h0 p hp;omega)
 go_upto_region 11 with (fail)
 have hWs:(W.setCell (aD (g+1) 2) (.int .i64 (sn:Int))).heap.size=g+2:=by simp [World.setCell];omega
 generalize (W.setCell (aD (g+1) 2) (.int .i64 (sn:Int)))=W1 at *
 clear c2 c3 f2 f3
 obtain ⟨_,_,_,c3,_⟩:=zaf HO.out
 obtain ⟨_,_,_,f3,_⟩:=zan HO.out
 obtain ⟨c8,b8⟩:=zjy HB.out HX8.out
 have hx:=(Ext.refl (W1.setCell (aD (g+1) 3) x8)).alloc (.cells Zk.p 229)
 have HTX:=qj (heap_alloc_new (W1.setCell (aD (g+1) 3) x8) (.cells Zk.p 229))
 have HO:=qj (zab (show (W1.setCell (aD (g+1) 3) x8).heap[g+1]?=some (.cells #[.int .u8 2,.int .i64 x1,.int .i64 sn,x8,.string ⟨#[]⟩,.string ⟨#[]⟩,.string ⟨#[]⟩] 42 (0,0)) from zch HO.out x8) hx)
 have HQ:=qj (zab (zah HQ.out (zaJ (g+1) 3 x8) (by omega)) hx)
 have HE:=qj (Ext.trans (show Ext w (W1.setCell (aD (g+1) 3) x8) from HE.out.setCell (p:=⟨g+1,3,none⟩) (by dsimp only;omega) x8) hx)
 have HB:=qj ((zfH HB.out (zaJ (g+1) 3 x8) fun h0 p hp hh=>by have:=hoff h0 p hp;omega).ext hx)
 have hsz2:(W1.setCell (aD (g+1) 3) x8).heap.size=g+2:=by simp [World.setCell];omega
 rw [hsz2] at HTX
 have HS:Hid (RRd w (some ⟨g',o,none⟩) n c l g #[.int .u8 2,.int .i64 x1,.int .i64 sn,x8,.string ⟨#[]⟩,.string ⟨#[]⟩,.string ⟨#[]⟩] Zk.p _):=qj ⟨HB.out,HQ.out,HO.out,HTX.out,HE.out,by omega,hoff⟩
 clear hx HO HQ HE HB HTX
 go_upto_region 14 with (fail)
 generalize ((W1.setCell (aD (g+1) 3) x8).alloc (.cells Zk.p 229))=W2 at *
 clear c3 f3 c8
 have hWs1:W1.heap.size=g+2:=by omega
 go_wp2_with fail
 refine wp_loop_rounds 4 ?_
 rw [rounds_succ]
 go_wp2_with fail
 have hP0:k+9≤l.length:=by omega
 have hR:=fun (h:enR l k=none)=>zee (l:=l) (a:=k) (by omega) h
 have hY:=fun e m (h:enR l k=some (e,m))=>zhk (l:=l) (a:=k) (by omega) h
 cases t1:rdT l (k+9) with
 | none =>
  have HN:=qj (hR (zcx (zkD h2 t1)))
  refine (zgb HS.out.by_ hn hP0 t1 _ (by omega)).mono ?_
  rintro e v0 ⟨⟨s,rfl⟩,rfl⟩
  obtain ⟨d0,d1,d2,d3,d4,d5,d6⟩:=zaf HS.out.res
  obtain ⟨e0,e1,e2,e3,e4,e5,e6⟩:=zan HS.out.res
  go_wp2_with fail
  refine bodyPost_ret (v:=.tuple #[.agg Zk.d,.int .i64 0,.int .i64 90]) ?_ rfl ⟨by rw [HN.out];rfl,?_⟩
  ·simp [results,Tryz.results137,go_sem,d0,d1,d2,d3,d4,d5,d6]
  ·exact zaU HS.out.ext HS.out.ge _ _ _ _ _ _ _
 | some x =>
  obtain ⟨s1,m1⟩:=x
  have hP1:=zmM hP0 t1
  refine (zeV HS.out.by_ hn hP0 t1 _ (by omega)).mono ?_
  rintro e V0 ⟨rfl,rfl⟩
  obtain ⟨⟨x0,x1',x2⟩,y0,y1,y2⟩:=zdD HS.out.txt
  have HS:=qj (HS.out.putT 0 s1 (ds:=#[s1,.string ⟨#[]⟩,.string ⟨#[]⟩]) rfl)
  go_wp2_with fail
  rw [rounds_succ]
  go_wp2_with fail
  generalize (V0.setCell (aD (g+2) 0) s1)=Y0 at *
  clear x0 x1' x2 y0 y1 y2
  cases t2:rdT l m1 with
  | none =>
   have HN:=qj (hR (zcx (zkv h2 t1 t2)))
   refine (zgb HS.out.by_ hn hP1 t2 _ rfl).mono ?_
   rintro e v1 ⟨⟨s,rfl⟩,rfl⟩
   obtain ⟨d0,d1,d2,d3,d4,d5,d6⟩:=zaf HS.out.res
   obtain ⟨e0,e1,e2,e3,e4,e5,e6⟩:=zan HS.out.res
   go_wp2_with fail
   refine bodyPost_ret (v:=.tuple #[.agg Zk.d,.int .i64 0,.int .i64 90]) ?_ rfl ⟨by rw [HN.out];rfl,?_⟩
   ·simp [results,Tryz.results137,go_sem,d0,d1,d2,d3,d4,d5,d6]
   ·exact zaU HS.out.ext HS.out.ge _ _ _ _ _ _ _
  | some x =>
   obtain ⟨s2,m2⟩:=x
   have hP2:=zmM hP1 t2
   refine (zeV HS.out.by_ hn hP1 t2 _ rfl).mono ?_
   rintro e V1 ⟨rfl,rfl⟩
   obtain ⟨⟨x0,x1',x2⟩,y0,y1,y2⟩:=zdD HS.out.txt
   have HS:=qj (HS.out.putT 1 s2 (ds:=#[s1,s2,.string ⟨#[]⟩]) rfl)
   go_wp2_with fail
   rw [rounds_succ]
   go_wp2_with fail
   generalize (V1.setCell (aD (g+2) 1) s2)=Y1 at *
   clear x0 x1' x2 y0 y1 y2
   cases t3:rdT l m2 with
   | none =>
    have HN:=qj (hR (zcx (zkL h2 t1 t2 t3)))
    refine (zgb HS.out.by_ hn hP2 t3 _ rfl).mono ?_
    rintro e v2 ⟨⟨s,rfl⟩,rfl⟩
    obtain ⟨d0,d1,d2,d3,d4,d5,d6⟩:=zaf HS.out.res
    obtain ⟨e0,e1,e2,e3,e4,e5,e6⟩:=zan HS.out.res
    go_wp2_with fail
    refine bodyPost_ret (v:=.tuple #[.agg Zk.d,.int .i64 0,.int .i64 90]) ?_ rfl ⟨by rw [HN.out];rfl,?_⟩
    ·simp [results,Tryz.results137,go_sem,d0,d1,d2,d3,d4,d5,d6]
    ·exact zaU HS.out.ext HS.out.ge _ _ _ _ _ _ _
   | some x =>
    obtain ⟨s3,m3⟩:=x
    have hP3:=zmM hP2 t3
    refine (zeV HS.out.by_ hn hP2 t3 _ rfl).mono ?_
    rintro e V2 ⟨rfl,rfl⟩
    obtain ⟨⟨x0,x1',x2⟩,y0,y1,y2⟩:=zdD HS.out.txt
    have HS:=qj (HS.out.putT 2 s3 (ds:=#[s1,s2,s3]) rfl)
    go_wp2_with fail
    rw [rounds_succ]
    go_upto_region 22 with (fail)
    generalize (V2.setCell (aD (g+2) 2) s3)=Y2 at *
    clear x0 x1' x2 y0 y1 y2
    obtain ⟨⟨x0,x1',x2⟩,_⟩:=zdD HS.out.txt
    obtain ⟨o0,o1,o2,o3,o4,o5,o6⟩:=zaf HS.out.own
    obtain ⟨p0,p1,p2,p3,p4,p5,p6⟩:=zan HS.out.own
    have HS:=qj (((HS.out.putO 4 s1 (ds:=#[.int .u8 2,.int .i64 x1,.int .i64 sn,x8,s1,.string ⟨#[]⟩,.string ⟨#[]⟩]) rfl).putO 5 s2 (ds:=#[.int .u8 2,.int .i64 x1,.int .i64 sn,x8,s1,s2,.string ⟨#[]⟩]) rfl).putO 6 s3 (ds:=#[.int .u8 2,.int .i64 x1,.int .i64 sn,x8,s1,s2,s3]) rfl)
    go_upto_region 25 with (fail)
    generalize (((Y2.setCell (aD (g+1) 4) s1).setCell (aD (g+1) 5) s2).setCell (aD (g+1) 6) s3)=Y at *
    clear x0 x1' x2 o0 o1 o2 o3 o4 o5 o6 p0 p1 p2 p3 p4 p5 p6
    obtain ⟨o0,o1,o2,o3,o4,o5,o6⟩:=zaf HS.out.own
    have hraw:=zlm h2 (by omega) t1 t2 t3
    have h1g:l.getD (k+1) 0=x1:=by rw [List.getD_eq_getElem?_getD,HX1.out];rfl
    have h8g:l.getD (k+8) 0=x8:=by rw [List.getD_eq_getElem?_getD,HX8.out];rfl
    rw [h1g,h8g,HSN.out] at hraw
    cases hk:enOk ⟨2,(x1:Int),(sn:Int),x8,s1,s2,s3⟩ with
    | false =>
     have HN:=qj (hR (zqo hraw hk))
     have HKK:=qj hk
     clear hk hraw h1g h8g
     go_wp2_with fail
     refine (zcc _ _ _ _ _ _ _ _).mono ?_
     rw [HKK.out]
     rintro e w5 ⟨rfl,hx⟩
     have HS:=qj (HS.out.ext2 hx)
     clear hx o0 o1 o2 o3 o4 o5 o6
     obtain ⟨d0,d1,d2,d3,d4,d5,d6⟩:=zaf HS.out.res
     obtain ⟨e0,e1,e2,e3,e4,e5,e6⟩:=zan HS.out.res
     go_wp2_with fail
     refine bodyPost_ret (v:=.tuple #[.agg Zk.d,.int .i64 0,.int .i64 90]) ?_ rfl ⟨by rw [HN.out];rfl,?_⟩
     ·simp [results,Tryz.results137,go_sem,d0,d1,d2,d3,d4,d5,d6]
     ·exact zaU HS.out.ext HS.out.ge _ _ _ _ _ _ _
    | true =>
     have HN:=qj (hY _ _ (zgD hraw hk))
     have HKK:=qj hk
     clear hk hraw h1g h8g
     go_wp2_with fail
     refine (zcc _ _ _ _ _ _ _ _).mono ?_
     rw [HKK.out]
     rintro e w5 ⟨rfl,hx⟩
     have HS:=qj (HS.out.ext2 hx)
     clear hx o0 o1 o2 o3 o4 o5 o6
     obtain ⟨o0,o1,o2,o3,o4,o5,o6⟩:=zaf HS.out.own
     obtain ⟨d0,d1,d2,d3,d4,d5,d6⟩:=zaf HS.out.res
     obtain ⟨e0,e1,e2,e3,e4,e5,e6⟩:=zan HS.out.res
     go_wp2_with fail
     refine bodyPost_ret (v:=.tuple #[.agg #[.int .u8 2,.int .i64 x1,.int .i64 sn,x8,s1,s2,s3],.int .i64 m3,.int .i64 0]) ?_ rfl ⟨by rw [HN.out];rfl,?_⟩
     ·simp [results,Tryz.results137,go_sem,d0,d1,d2,d3,d4,d5,d6]
     ·exact zaU HS.out.ext HS.out.ge _ _ _ _ _ _ _
theorem zlM (A:Option Addr) (n c:Nat) (l:List Nat) (a:Int) (w:World) (hb:By w A n c l) (hn:n≤9000000000000000000) :
 (cL 137 #[.slice A n c,.int .i64 a] w (.tuple #[.agg (rdE l a).1,.int .i64 ((rdE l a).2.1:Int),.int .i64 (rdE l a).2.2]):Prop):=by
 have hlen:=hb.len
 have hx:=(Ext.refl w).alloc (.cells Zk.d 42)
 have HQ:=qj (heap_alloc_new w (.cells Zk.d 42))
 have HE:=qj hx
 have HE1:=qj ((Ext.refl w).alloc (.cells Zk.k 42))
 have hbx:=hb.ext hx
 have HL:=qj hlen
 obtain ⟨d0,d1,d2,d3,d4,d5,d6⟩:=zaf HQ.out
 obtain ⟨e0,e1,e2,e3,e4,e5,e6⟩:=zan HQ.out
 clear hx
 by_cases h1:a<0
 ·have HN:=qj (znA (l:=l) (.inl h1))
  clear hb hbx hlen
  go_enter Tryz.func137,Tryz.ntmps137
  go_wp2_with fail
  refine bodyPost_ret (v:=.tuple #[.agg Zk.d,.int .i64 0,.int .i64 2]) ?_ rfl ⟨by rw [HN.out];rfl,?_⟩
  ·simp [results,Tryz.results137,go_sem,d0,d1,d2,d3,d4,d5,d6]
  ·exact HE.out
 by_cases h2:(n:Int)<a
 ·have HN:=qj (znA (l:=l) (a:=a) (.inr (by rw [hlen];exact h2)))
  clear hb hbx hlen
  go_enter Tryz.func137,Tryz.ntmps137
  go_wp2_with fail
  refine bodyPost_ret (v:=.tuple #[.agg Zk.d,.int .i64 0,.int .i64 2]) ?_ rfl ⟨by rw [HN.out];rfl,?_⟩
  ·simp [results,Tryz.results137,go_sem,d0,d1,d2,d3,d4,d5,d6]
  ·exact HE.out
 obtain ⟨k,rfl⟩:=Int.eq_ofNat_of_zero_le (show 0≤a by omega)
 by_cases h3:k=n
 ·subst h3
  have HN:=qj (zee (l:=l) (a:=k) (by omega) (zcx (zja (by omega))))
  clear hb hbx hlen
  go_enter Tryz.func137,Tryz.ntmps137
  go_wp2_with fail
  refine bodyPost_ret (v:=.tuple #[.agg Zk.d,.int .i64 0,.int .i64 90]) ?_ rfl ⟨by rw [HN.out];rfl,?_⟩
  ·simp [results,Tryz.results137,go_sem,d0,d1,d2,d3,d4,d5,d6]
  ·exact HE.out
 have hk:k<n:=by omega
 obtain ⟨g',o,x,rfl,hx,hx2,hc⟩:=ztH hbx hk
 have q2:decide ((n:Int)<(k:Int))=false:=decide_eq_false (by omega)
 have q3:((k:Int) == (n:Int))=false:=by rw [beq_eq_false_iff_ne];omega
 by_cases h4:x=1
 ·subst h4
  have HN:=qj (zhk (l:=l) (a:=k) (by omega) (zgD (zhP hx) (show enOk { k:=1 }=true by decide)))
  clear hb hbx hx
  go_enter Tryz.func137,Tryz.ntmps137
  go_wp2_with fail
  refine bodyPost_ret (v:=.tuple #[.agg Zk.k,.int .i64 ((k+1:Nat):Int),.int .i64 0]) ?_ rfl ⟨by rw [HN.out];rfl,?_⟩
  ·simp [results,Tryz.results137,go_sem]
  ·exact HE1.out
 have q4:((x:Int) == 1)=false:=by rw [beq_eq_false_iff_ne];omega
 by_cases h5:x=2
 ·subst h5
  by_cases h6:k+9≤n
  ·exact zqU g' o n c k l w hb hn hx h6
  ·have HN:=qj (zee (l:=l) (a:=k) (by omega) (zcx (zhR hx (by omega))))
   have q5:decide ((n:Int)-(k:Int)<9)=true:=decide_eq_true (by omega)
   clear hb hbx hx
   go_enter Tryz.func137,Tryz.ntmps137
   go_wp2_with fail
   refine bodyPost_ret (v:=.tuple #[.agg Zk.d,.int .i64 0,.int .i64 90]) ?_ rfl ⟨by rw [HN.out];rfl,?_⟩
   ·simp [results,Tryz.results137,go_sem,d0,d1,d2,d3,d4,d5,d6]
   ·exact HE.out
 ·have q5:((x:Int) != 2)=true:=by rw [bne_iff_ne];omega
  have HN:=qj (zee (l:=l) (a:=k) (by omega) (zcx (zhM hx h4 h5)))
  clear hb hbx hx
  go_enter Tryz.func137,Tryz.ntmps137
  go_wp2_with fail
  refine bodyPost_ret (v:=.tuple #[.agg Zk.d,.int .i64 0,.int .i64 90]) ?_ rfl ⟨by rw [HN.out];rfl,?_⟩
  ·simp [results,Tryz.results137,go_sem,d0,d1,d2,d3,d4,d5,d6]
  ·exact HE.out
theorem zcV (A:Option Addr) (n c:Nat) (l:List Nat) (w:World) (hb:By w A n c l) (hn:n≤9000000000000000000) :
 (cL 82 #[.slice A n c] w (.tuple #[.agg #[.int .i64 ((psE l).1:Int),.int .i64 ((psE l).2.1:Int)],.agg (psE l).2.2.1,.int .i64 (psE l).2.2.2]):Prop):=by
 have hlen:=hb.len
 have hx1:=(Ext.refl w).alloc (.cells Zk.e 38)
 have hx2:=(Ext.refl (w.alloc (.cells Zk.e 38))).alloc (.cells Zk.d 42)
 have HQ2:=qj (zab (heap_alloc_new w (.cells Zk.e 38)) hx2)
 have HQ3:=qj (heap_alloc2_new w (.cells Zk.e 38) (.cells Zk.d 42))
 have HE:=qj (hx1.trans hx2)
 have HB:=qj (hb.ext (hx1.trans hx2))
 have HLN:=qj hlen
 clear hx1 hx2 hb
 by_cases h7:n<7
 ·have HN:=qj (zec (l:=l) (by unfold bdR;rw [if_pos (by omega)]))
  obtain ⟨⟨u0,u1⟩,v0,v1⟩:=zaE HQ2.out
  obtain ⟨d0,d1,d2,d3,d4,d5,d6⟩:=zaf HQ3.out
  obtain ⟨e0,e1,e2,e3,e4,e5,e6⟩:=zan HQ3.out
  clear hlen
  go_enter Tryz.func82,Tryz.ntmps82
  go_wp2_with fail
  refine bodyPost_ret (v:=.tuple #[.agg Zk.e,.agg Zk.d,.int .i64 90]) ?_ rfl ⟨by rw [HN.out];rfl,?_⟩
  ·simp [results,Tryz.results82,go_sem,u0,u1,d0,d1,d2,d3,d4,d5,d6]
  ·exact HE.out
 obtain ⟨y,hy⟩:∃y,l[6]?=some y:=⟨_,List.getElem?_eq_getElem (by omega)⟩
 obtain ⟨g',o,y',rfl,hy',hy2,c6'⟩:=ztH HB.out (show 6<n by omega)
 obtain rfl:y=y':=by rw [hy] at hy';exact Option.some.inj hy'
 obtain ⟨x,hxn⟩:∃x,num (l.take 6)=x:=⟨_,rfl⟩
 have HG:Hid (getS l 0 6=(x,6,0)):=qj (by
  have h:=zfX (l:=l) (x:=6) rfl (by omega)
  rw [hxn] at h
  exact h)
 have hd:bdR l=(enR l 7).bind fun r=>if r.2=l.length∧balE (x:Nat) (y:Nat)=true then some (x,y,r.1) else none:=by
  unfold bdR
  rw [if_neg (by omega),hxn,show l.getD 6 0=y from by rw [List.getD_eq_getElem?_getD,hy];rfl]
 have hsz:((w.alloc (.cells Zk.e 38)).alloc (.cells Zk.d 42)).heap.size=w.heap.size+2:=by simp
 have HB6:=qj (heap_alloc_new ((w.alloc (.cells Zk.e 38)).alloc (.cells Zk.d 42)) (.cells #[.int .i64 x,.int .i64 y] 38))
 rw [hsz] at HB6
 have hx:=(Ext.refl ((w.alloc (.cells Zk.e 38)).alloc (.cells Zk.d 42))).alloc (.cells #[.int .i64 x,.int .i64 y] 38)
 have HBX:=qj (HB.out.ext hx)
 have HX:=qj hx
 have hy2':IntKind.i64.wrap (y:Int)=(y:Int):=IntWalk.i64_in _ (by omega)
 have HD:=qj hd
 have HRS:=qj (fun x y e (h:bdR l=some (x,y,e))=>zfc h)
 have HRN:=qj (fun (h:bdR l=none)=>zec h)
 have HR7:Hid ((∃e m,enR l 7=some (e,m)∧rdE l 7=(e,m,0))∨(enR l 7=none∧rdE l 7=({},0,90))):=qj (by
  cases h:enR l 7 with
  | none=>exact .inr ⟨rfl,zee (a:=7) (by omega) h⟩
  | some r=>obtain ⟨e,m⟩:=r;exact .inl ⟨e,m,rfl,zhk (a:=7) (by omega) h⟩)
 clear hd hx hy hy' hxn hsz
 go_enter Tryz.func82,Tryz.ntmps82
 go_wp2_with fail
 refine (zbT _ l n c _ _ _ _ HB.out.len HB.out.rd hn).mono ?_
 rw [HG.out]
 rintro e w' ⟨rfl,rfl⟩
 go_wp2_with fail
 have HQ2:=qj (zab HQ2.out HX.out)
 have HQ3:=qj (zab HQ3.out HX.out)
 have HE:=qj (HE.out.trans HX.out)
 generalize (((w.alloc (.cells Zk.e 38)).alloc (.cells Zk.d 42)).alloc (.cells #[.int .i64 x,.int .i64 y] 38))=W at *
 refine (zlM _ n c l 7 _ HBX.out hn).mono ?_
 have hgl:w.heap.size+2<W.heap.size:=(Array.getElem?_eq_some_iff.1 HB6.out).1
 clear c6' hy2'
 rcases HR7.out with ⟨⟨ek,cl,sq,ok,key,old,val⟩,m,hr,hq⟩ | ⟨hr,hq⟩
 ·rw [hq]
  dsimp only
  rintro e w1 ⟨rfl,hx⟩
  have hx2:=hx.trans ((Ext.refl w1).alloc (.cells #[ek,cl,sq,ok,key,old,val] 42))
  have HB7:=qj (heap_alloc_new w1 (.cells #[ek,cl,sq,ok,key,old,val] 42))
  have HQ2:=qj (zab HQ2.out hx2)
  have HQ3:=qj (zab HQ3.out hx2)
  have HB6:=qj (zab HB6.out hx2)
  have HE:=qj (HE.out.trans hx2)
  have hgl2:=Nat.lt_of_lt_of_le hgl hx.size
  rw [hr] at HD
  clear hx hx2 hr hq HR7
  go_upto_region 6 with (fail)
  generalize (w1.alloc (.cells #[ek,cl,sq,ok,key,old,val] 42))=W1 at *
  generalize hg7:w1.heap.size=g7 at *
  obtain ⟨⟨u0,u1⟩,v0,v1⟩:=zaE HQ2.out
  obtain ⟨d0,d1,d2,d3,d4,d5,d6⟩:=zaf HQ3.out
  obtain ⟨e0,e1,e2,e3,e4,e5,e6⟩:=zan HQ3.out
  obtain ⟨⟨b0,b1⟩,_⟩:=zaE HB6.out
  obtain ⟨c0,c1,c2,c3,c4,c5,c6⟩:=zaf HB7.out
  by_cases hm:m=n
  ·subst hm
   have hne:((m:Int) != (m:Int))=false:=by simp
   cases hb:balE (x:Int) (y:Int) with
   | false =>
    have HN:=qj (HRN.out (by rw [HD.out];simp [hb]))
    have HBB:=qj hb
    clear HRN HRS hb
    go_wp2_with fail
    refine (zcr _ _ _).mono ?_
    rw [HBB.out]
    rintro e w5 ⟨rfl,hx⟩
    have HQ2:=qj (zab HQ2.out hx)
    have HQ3:=qj (zab HQ3.out hx)
    have HB6:=qj (zab HB6.out hx)
    have HB7:=qj (zab HB7.out hx)
    have HE:=qj (HE.out.trans hx)
    clear hx
    clear u0 u1 v0 v1 d0 d1 d2 d3 d4 d5 d6 e0 e1 e2 e3 e4 e5 e6 b0 b1 c0 c1 c2 c3 c4 c5 c6
    obtain ⟨⟨u0,u1⟩,v0,v1⟩:=zaE HQ2.out
    obtain ⟨d0,d1,d2,d3,d4,d5,d6⟩:=zaf HQ3.out
    obtain ⟨e0,e1,e2,e3,e4,e5,e6⟩:=zan HQ3.out
    obtain ⟨⟨b0,b1⟩,_⟩:=zaE HB6.out
    obtain ⟨c0,c1,c2,c3,c4,c5,c6⟩:=zaf HB7.out
    go_wp2_with fail
    refine bodyPost_ret (v:=.tuple #[.agg Zk.e,.agg Zk.d,.int .i64 90]) ?_ rfl ⟨by rw [HN.out];rfl,?_⟩
    ·simp [results,Tryz.results82,go_sem,u0,u1,d0,d1,d2,d3,d4,d5,d6]
    ·exact zaU (zbP HE.out (Nat.le_refl _) _ _) (by omega) _ _ _ _ _ _ _
   | true =>
    have HN:=qj (HRS.out x y ⟨ek,cl,sq,ok,key,old,val⟩ (by rw [HD.out];simp [hb,HLN.out]))
    have HBB:=qj hb
    clear HRN HRS hb
    go_wp2_with fail
    refine (zcr _ _ _).mono ?_
    rw [HBB.out]
    rintro e w5 ⟨rfl,hx⟩
    have HQ2:=qj (zab HQ2.out hx)
    have HQ3:=qj (zab HQ3.out hx)
    have HB6:=qj (zab HB6.out hx)
    have HB7:=qj (zab HB7.out hx)
    have HE:=qj (HE.out.trans hx)
    clear hx
    clear u0 u1 v0 v1 d0 d1 d2 d3 d4 d5 d6 e0 e1 e2 e3 e4 e5 e6 b0 b1 c0 c1 c2 c3 c4 c5 c6
    obtain ⟨⟨u0,u1⟩,v0,v1⟩:=zaE HQ2.out
    obtain ⟨d0,d1,d2,d3,d4,d5,d6⟩:=zaf HQ3.out
    obtain ⟨e0,e1,e2,e3,e4,e5,e6⟩:=zan HQ3.out
    obtain ⟨⟨b0,b1⟩,_⟩:=zaE HB6.out
    obtain ⟨c0,c1,c2,c3,c4,c5,c6⟩:=zaf HB7.out
    go_wp2_with fail
    go_region
    go_wp2_with fail
    refine bodyPost_ret (v:=.tuple #[.agg #[.int .i64 x,.int .i64 y],.agg #[ek,cl,sq,ok,key,old,val],.int .i64 0]) ?_ rfl ⟨by rw [HN.out],?_⟩
    ·simp [results,Tryz.results82,go_sem,u0,u1,d0,d1,d2,d3,d4,d5,d6]
    ·exact (zaU (zbP HE.out (Nat.le_refl _) _ _) (by omega) _ _ _ _ _ _ _).drew
  ·have hne:((m:Int) != (n:Int))=true:=by rw [bne_iff_ne];omega
   have HN:=qj (HRN.out (by rw [HD.out];simp [HLN.out,hm]))
   clear HRN HRS hm
   go_wp2_with fail
   refine bodyPost_ret (v:=.tuple #[.agg Zk.e,.agg Zk.d,.int .i64 90]) ?_ rfl ⟨by rw [HN.out];rfl,?_⟩
   ·simp [results,Tryz.results82,go_sem,u0,u1,d0,d1,d2,d3,d4,d5,d6]
   ·exact zaU (zbP HE.out (Nat.le_refl _) _ _) (by omega) _ _ _ _ _ _ _
 ·rw [hq]
  dsimp only
  rintro e w1 ⟨rfl,hx⟩
  have hx2:=hx.trans ((Ext.refl w1).alloc (.cells #[.int .u8 0,.int .i64 0,.int .i64 0,.int .u8 0,ByteArray.empty,ByteArray.empty,ByteArray.empty] 42))
  have HQ2:=qj (zab HQ2.out hx2)
  have HQ3:=qj (zab HQ3.out hx2)
  have HE:=qj (HE.out.trans hx2)
  have HN:=qj (HRN.out (by rw [HD.out,hr];rfl))
  clear hx hx2 hr hq HR7
  go_upto_region 6 with (fail)
  generalize (w1.alloc (.cells #[.int .u8 0,.int .i64 0,.int .i64 0,.int .u8 0,ByteArray.empty,ByteArray.empty,ByteArray.empty] 42))=W1 at *
  obtain ⟨⟨u0,u1⟩,v0,v1⟩:=zaE HQ2.out
  obtain ⟨d0,d1,d2,d3,d4,d5,d6⟩:=zaf HQ3.out
  obtain ⟨e0,e1,e2,e3,e4,e5,e6⟩:=zan HQ3.out
  go_wp2_with fail
  refine bodyPost_ret (v:=.tuple #[.agg Zk.e,.agg Zk.d,.int .i64 90]) ?_ rfl ⟨by rw [HN.out];rfl,?_⟩
  ·simp [results,Tryz.results82,go_sem,u0,u1,d0,d1,d2,d3,d4,d5,d6]
  ·exact zaU (zbP HE.out (Nat.le_refl _) _ _) (by omega) _ _ _ _ _ _ _
structure RLS (w W:World) (g:Nat) (p:Rec) (f0 f1:CopL):Prop where
 rec_:zbj W (g+1+1) p
 two:TwoL W (g+1+1+1) f0 f1
 z4:zbj W g {}
 z5:TwoL W (g+1) {} {}
 ext:Ext w W
 low:w.heap.size≤g
section
variable {w W W':World} {g:Nat} {p:Rec} {f0 f1:CopL}
theorem RLS.mono (h:RLS w W g p f0 f1) (k:Ext W W'):RLS w W' g p f0 f1:=⟨h.rec_.ext k,h.two.ext k,h.z4.ext k,h.z5.ext k,h.ext.trans k,h.low⟩
theorem RLS.modT {gt:Nat} (h:RLS w W g p f0 f1) (k:Mod (fun i=>i=gt) W W') (hu:g+1+1+1<gt) (hx:Ext w W'):RLS w W' g p f0 f1 :=
 ⟨zah h.rec_ k (by omega),zah h.two k (by omega),zah h.z4 k (by omega),zah h.z5 k (by omega),hx,h.low⟩
theorem RLS.recSt (h:RLS w W g p f0 f1) (s:Nat):RLS w (W.setCell (aD (g+1+1) 0) s) g { p with st:=s } f0 f1:=by
 have hm:Mod (fun k=>k=g+1+1) W (W.setCell (aD (g+1+1) 0) s):=((Mod.refl (fun k=>k=g+1+1) W).setCell (p:=⟨g+1+1,0,none⟩) (.inl rfl) s)
 have hr:(W.setCell (aD (g+1+1) 0) s).heap[g+1+1]?=_:=(zae (cs':=#[s,p.ix,p.bx,p.yb,p.wh]) 0 h.rec_ s rfl)
 exact ⟨hr,zah h.two hm (by omega),zah h.z4 hm (by omega),zah h.z5 hm (by omega),(h.ext.setCell (p:=⟨g+1+1,0,none⟩) ((by have:=h.low;show w.heap.size≤g+1+1;omega)) s),h.low⟩
theorem RLS.recPut (h:RLS w W g p f0 f1) (q:Rec):RLS w ((SW.mk W (g+1+1) q:World)) g q f0 f1:=by
 have hm:Mod (fun k=>k=g+1+1) W ((SW.mk W (g+1+1) q:World)):=((((((Mod.refl (fun k=>k=g+1+1) W).setCell (p:=⟨g+1+1,0,none⟩) (.inl rfl) q.st).setCell (p:=⟨g+1+1,1,none⟩) (.inl rfl) q.ix).setCell (p:=⟨g+1+1,2,none⟩) (.inl rfl) q.bx).setCell (p:=⟨g+1+1,3,none⟩) (.inl rfl) q.yb).setCell (p:=⟨g+1+1,4,none⟩) (.inl rfl) q.wh)
 have hr:((SW.mk W (g+1+1) q:World)).heap[g+1+1]?=_:=(zae (cs':=q) 4 (zae (cs':=#[q.st,q.ix,q.bx,q.yb,p.wh]) 3 (zae (cs':=#[q.st,q.ix,q.bx,p.yb,p.wh]) 2 (zae (cs':=#[q.st,q.ix,p.bx,p.yb,p.wh]) 1 (zae (cs':=#[q.st,p.ix,p.bx,p.yb,p.wh]) 0 h.rec_ q.st rfl) q.ix rfl) q.bx rfl) q.yb rfl) q.wh rfl)
 exact ⟨hr,zah h.two hm (by omega),zah h.z4 hm (by omega),zah h.z5 hm (by omega),(((((h.ext.setCell (p:=⟨g+1+1,0,none⟩) ((by have:=h.low;show w.heap.size≤g+1+1;omega)) q.st).setCell (p:=⟨g+1+1,1,none⟩) ((by have:=h.low;show w.heap.size≤g+1+1;omega)) q.ix).setCell (p:=⟨g+1+1,2,none⟩) ((by have:=h.low;show w.heap.size≤g+1+1;omega)) q.bx).setCell (p:=⟨g+1+1,3,none⟩) ((by have:=h.low;show w.heap.size≤g+1+1;omega)) q.yb).setCell (p:=⟨g+1+1,4,none⟩) ((by have:=h.low;show w.heap.size≤g+1+1;omega)) q.wh),h.low⟩
theorem RLS.copSt0 (h:RLS w W g p f0 f1) (s:Nat):RLS w (W.setCell (aD (g+1+1+1) 0) s) g p { f0 with st:=s } f1:=by
 have hm:Mod (fun k=>k=g+1+1+1) W (W.setCell (aD (g+1+1+1) 0) s):=((Mod.refl (fun k=>k=g+1+1+1) W).setCell (p:=⟨g+1+1+1,0,none⟩) (.inl rfl) s)
 have hr:(W.setCell (aD (g+1+1+1) 0) s).heap[g+1+1+1]?=_:=(zae (cs':=#[s,f0.ix,f0.bx,f0.yb,f0.e.k,f0.e.cl,f0.e.sq,f0.e.ok,f0.e.key,f0.e.old,f0.e.val,f1.st,f1.ix,f1.bx,f1.yb,f1.e.k,f1.e.cl,f1.e.sq,f1.e.ok,f1.e.key,f1.e.old,f1.e.val]) 0 h.two s rfl)
 exact ⟨zah h.rec_ hm (by omega),hr,zah h.z4 hm (by omega),zah h.z5 hm (by omega),(h.ext.setCell (p:=⟨g+1+1+1,0,none⟩) ((by have:=h.low;show w.heap.size≤g+1+1+1;omega)) s),h.low⟩
theorem RLS.copSt1 (h:RLS w W g p f0 f1) (s:Nat):RLS w (W.setCell (aD (g+1+1+1) 11) s) g p f0 { f1 with st:=s }:=by
 have hm:Mod (fun k=>k=g+1+1+1) W (W.setCell (aD (g+1+1+1) 11) s):=((Mod.refl (fun k=>k=g+1+1+1) W).setCell (p:=⟨g+1+1+1,11,none⟩) (.inl rfl) s)
 have hr:(W.setCell (aD (g+1+1+1) 11) s).heap[g+1+1+1]?=_:=(zae (cs':=#[f0.st,f0.ix,f0.bx,f0.yb,f0.e.k,f0.e.cl,f0.e.sq,f0.e.ok,f0.e.key,f0.e.old,f0.e.val,s,f1.ix,f1.bx,f1.yb,f1.e.k,f1.e.cl,f1.e.sq,f1.e.ok,f1.e.key,f1.e.old,f1.e.val]) 11 h.two s rfl)
 exact ⟨zah h.rec_ hm (by omega),hr,zah h.z4 hm (by omega),zah h.z5 hm (by omega),(h.ext.setCell (p:=⟨g+1+1+1,11,none⟩) ((by have:=h.low;show w.heap.size≤g+1+1+1;omega)) s),h.low⟩
theorem RLS.copPut0 (h:RLS w W g p f0 f1) (c:CopL):RLS w ((SW.mk W (g+1+1+1) c:World)) g p c f1:=by
 have hm:Mod (fun k=>k=g+1+1+1) W ((SW.mk W (g+1+1+1) c:World)):=((((((((((((Mod.refl (fun k=>k=g+1+1+1) W).setCell (p:=⟨g+1+1+1,0,none⟩) (.inl rfl) c.st).setCell (p:=⟨g+1+1+1,1,none⟩) (.inl rfl) c.ix).setCell (p:=⟨g+1+1+1,2,none⟩) (.inl rfl) c.bx).setCell (p:=⟨g+1+1+1,3,none⟩) (.inl rfl) c.yb).setCell (p:=⟨g+1+1+1,4,none⟩) (.inl rfl) c.e.k).setCell (p:=⟨g+1+1+1,5,none⟩) (.inl rfl) c.e.cl).setCell (p:=⟨g+1+1+1,6,none⟩) (.inl rfl) c.e.sq).setCell (p:=⟨g+1+1+1,7,none⟩) (.inl rfl) c.e.ok).setCell (p:=⟨g+1+1+1,8,none⟩) (.inl rfl) c.e.key).setCell (p:=⟨g+1+1+1,9,none⟩) (.inl rfl) c.e.old).setCell (p:=⟨g+1+1+1,10,none⟩) (.inl rfl) c.e.val)
 have hr:((SW.mk W (g+1+1+1) c:World)).heap[g+1+1+1]?=_:=(zae (cs':=(c,f1)) 10 (zae (cs':=#[c.st,c.ix,c.bx,c.yb,c.e.k,c.e.cl,c.e.sq,c.e.ok,c.e.key,c.e.old,f0.e.val,f1.st,f1.ix,f1.bx,f1.yb,f1.e.k,f1.e.cl,f1.e.sq,f1.e.ok,f1.e.key,f1.e.old,f1.e.val]) 9 (zae (cs':=#[c.st,c.ix,c.bx,c.yb,c.e.k,c.e.cl,c.e.sq,c.e.ok,c.e.key,f0.e.old,f0.e.val,f1.st,f1.ix,f1.bx,f1.yb,f1.e.k,f1.e.cl,f1.e.sq,f1.e.ok,f1.e.key,f1.e.old,f1.e.val]) 8 (zae (cs':=#[c.st,c.ix,c.bx,c.yb,c.e.k,c.e.cl,c.e.sq,c.e.ok,f0.e.key,f0.e.old,f0.e.val,f1.st,f1.ix,f1.bx,f1.yb,f1.e.k,f1.e.cl,f1.e.sq,f1.e.ok,f1.e.key,f1.e.old,f1.e.val]) 7 (zae (cs':=#[c.st,c.ix,c.bx,c.yb,c.e.k,c.e.cl,c.e.sq,f0.e.ok,f0.e.key,f0.e.old,f0.e.val,f1.st,f1.ix,f1.bx,f1.yb,f1.e.k,f1.e.cl,f1.e.sq,f1.e.ok,f1.e.key,f1.e.old,f1.e.val]) 6 (zae (cs':=#[c.st,c.ix,c.bx,c.yb,c.e.k,c.e.cl,f0.e.sq,f0.e.ok,f0.e.key,f0.e.old,f0.e.val,f1.st,f1.ix,f1.bx,f1.yb,f1.e.k,f1.e.cl,f1.e.sq,f1.e.ok,f1.e.key,f1.e.old,f1.e.val]) 5 (zae (cs':=#[c.st,c.ix,c.bx,c.yb,c.e.k,f0.e.cl,f0.e.sq,f0.e.ok,f0.e.key,f0.e.old,f0.e.val,f1.st,f1.ix,f1.bx,f1.yb,f1.e.k,f1.e.cl,f1.e.sq,f1.e.ok,f1.e.key,f1.e.old,f1.e.val]) 4 (zae (cs':=#[c.st,c.ix,c.bx,c.yb,f0.e.k,f0.e.cl,f0.e.sq,f0.e.ok,f0.e.key,f0.e.old,f0.e.val,f1.st,f1.ix,f1.bx,f1.yb,f1.e.k,f1.e.cl,f1.e.sq,f1.e.ok,f1.e.key,f1.e.old,f1.e.val]) 3 (zae (cs':=#[c.st,c.ix,c.bx,f0.yb,f0.e.k,f0.e.cl,f0.e.sq,f0.e.ok,f0.e.key,f0.e.old,f0.e.val,f1.st,f1.ix,f1.bx,f1.yb,f1.e.k,f1.e.cl,f1.e.sq,f1.e.ok,f1.e.key,f1.e.old,f1.e.val]) 2 (zae (cs':=#[c.st,c.ix,f0.bx,f0.yb,f0.e.k,f0.e.cl,f0.e.sq,f0.e.ok,f0.e.key,f0.e.old,f0.e.val,f1.st,f1.ix,f1.bx,f1.yb,f1.e.k,f1.e.cl,f1.e.sq,f1.e.ok,f1.e.key,f1.e.old,f1.e.val]) 1 (zae (cs':=#[c.st,f0.ix,f0.bx,f0.yb,f0.e.k,f0.e.cl,f0.e.sq,f0.e.ok,f0.e.key,f0.e.old,f0.e.val,f1.st,f1.ix,f1.bx,f1.yb,f1.e.k,f1.e.cl,f1.e.sq,f1.e.ok,f1.e.key,f1.e.old,f1.e.val]) 0 h.two c.st rfl) c.ix rfl) c.bx rfl) c.yb rfl) c.e.k rfl) c.e.cl rfl) c.e.sq rfl) c.e.ok rfl) c.e.key rfl) c.e.old rfl) c.e.val rfl)
 exact ⟨zah h.rec_ hm (by omega),hr,zah h.z4 hm (by omega),zah h.z5 hm (by omega),(((((((((((h.ext.setCell (p:=⟨g+1+1+1,0,none⟩) ((by have:=h.low;show w.heap.size≤g+1+1+1;omega)) c.st).setCell (p:=⟨g+1+1+1,1,none⟩) ((by have:=h.low;show w.heap.size≤g+1+1+1;omega)) c.ix).setCell (p:=⟨g+1+1+1,2,none⟩) ((by have:=h.low;show w.heap.size≤g+1+1+1;omega)) c.bx).setCell (p:=⟨g+1+1+1,3,none⟩) ((by have:=h.low;show w.heap.size≤g+1+1+1;omega)) c.yb).setCell (p:=⟨g+1+1+1,4,none⟩) ((by have:=h.low;show w.heap.size≤g+1+1+1;omega)) c.e.k).setCell (p:=⟨g+1+1+1,5,none⟩) ((by have:=h.low;show w.heap.size≤g+1+1+1;omega)) c.e.cl).setCell (p:=⟨g+1+1+1,6,none⟩) ((by have:=h.low;show w.heap.size≤g+1+1+1;omega)) c.e.sq).setCell (p:=⟨g+1+1+1,7,none⟩) ((by have:=h.low;show w.heap.size≤g+1+1+1;omega)) c.e.ok).setCell (p:=⟨g+1+1+1,8,none⟩) ((by have:=h.low;show w.heap.size≤g+1+1+1;omega)) c.e.key).setCell (p:=⟨g+1+1+1,9,none⟩) ((by have:=h.low;show w.heap.size≤g+1+1+1;omega)) c.e.old).setCell (p:=⟨g+1+1+1,10,none⟩) ((by have:=h.low;show w.heap.size≤g+1+1+1;omega)) c.e.val),h.low⟩
theorem RLS.copPut1 (h:RLS w W g p f0 f1) (c:CopL):RLS w ((SV.mk W (g+1+1+1) c:World)) g p f0 c:=by
 have hm:Mod (fun k=>k=g+1+1+1) W ((SV.mk W (g+1+1+1) c:World)):=((((((((((((Mod.refl (fun k=>k=g+1+1+1) W).setCell (p:=⟨g+1+1+1,11,none⟩) (.inl rfl) c.st).setCell (p:=⟨g+1+1+1,12,none⟩) (.inl rfl) c.ix).setCell (p:=⟨g+1+1+1,13,none⟩) (.inl rfl) c.bx).setCell (p:=⟨g+1+1+1,14,none⟩) (.inl rfl) c.yb).setCell (p:=⟨g+1+1+1,15,none⟩) (.inl rfl) c.e.k).setCell (p:=⟨g+1+1+1,16,none⟩) (.inl rfl) c.e.cl).setCell (p:=⟨g+1+1+1,17,none⟩) (.inl rfl) c.e.sq).setCell (p:=⟨g+1+1+1,18,none⟩) (.inl rfl) c.e.ok).setCell (p:=⟨g+1+1+1,19,none⟩) (.inl rfl) c.e.key).setCell (p:=⟨g+1+1+1,20,none⟩) (.inl rfl) c.e.old).setCell (p:=⟨g+1+1+1,21,none⟩) (.inl rfl) c.e.val)
 have hr:((SV.mk W (g+1+1+1) c:World)).heap[g+1+1+1]?=_:=(zae (cs':=(f0,c)) 21 (zae (cs':=#[f0.st,f0.ix,f0.bx,f0.yb,f0.e.k,f0.e.cl,f0.e.sq,f0.e.ok,f0.e.key,f0.e.old,f0.e.val,c.st,c.ix,c.bx,c.yb,c.e.k,c.e.cl,c.e.sq,c.e.ok,c.e.key,c.e.old,f1.e.val]) 20 (zae (cs':=#[f0.st,f0.ix,f0.bx,f0.yb,f0.e.k,f0.e.cl,f0.e.sq,f0.e.ok,f0.e.key,f0.e.old,f0.e.val,c.st,c.ix,c.bx,c.yb,c.e.k,c.e.cl,c.e.sq,c.e.ok,c.e.key,f1.e.old,f1.e.val]) 19 (zae (cs':=#[f0.st,f0.ix,f0.bx,f0.yb,f0.e.k,f0.e.cl,f0.e.sq,f0.e.ok,f0.e.key,f0.e.old,f0.e.val,c.st,c.ix,c.bx,c.yb,c.e.k,c.e.cl,c.e.sq,c.e.ok,f1.e.key,f1.e.old,f1.e.val]) 18 (zae (cs':=#[f0.st,f0.ix,f0.bx,f0.yb,f0.e.k,f0.e.cl,f0.e.sq,f0.e.ok,f0.e.key,f0.e.old,f0.e.val,c.st,c.ix,c.bx,c.yb,c.e.k,c.e.cl,c.e.sq,f1.e.ok,f1.e.key,f1.e.old,f1.e.val]) 17 (zae (cs':=#[f0.st,f0.ix,f0.bx,f0.yb,f0.e.k,f0.e.cl,f0.e.sq,f0.e.ok,f0.e.key,f0.e.old,f0.e.val,c.st,c.ix,c.bx,c.yb,c.e.k,c.e.cl,f1.e.sq,f1.e.ok,f1.e.key,f1.e.old,f1.e.val]) 16 (zae (cs':=#[f0.st,f0.ix,f0.bx,f0.yb,f0.e.k,f0.e.cl,f0.e.sq,f0.e.ok,f0.e.key,f0.e.old,f0.e.val,c.st,c.ix,c.bx,c.yb,c.e.k,f1.e.cl,f1.e.sq,f1.e.ok,f1.e.key,f1.e.old,f1.e.val]) 15 (zae (cs':=#[f0.st,f0.ix,f0.bx,f0.yb,f0.e.k,f0.e.cl,f0.e.sq,f0.e.ok,f0.e.key,f0.e.old,f0.e.val,c.st,c.ix,c.bx,c.yb,f1.e.k,f1.e.cl,f1.e.sq,f1.e.ok,f1.e.key,f1.e.old,f1.e.val]) 14 (zae (cs':=#[f0.st,f0.ix,f0.bx,f0.yb,f0.e.k,f0.e.cl,f0.e.sq,f0.e.ok,f0.e.key,f0.e.old,f0.e.val,c.st,c.ix,c.bx,f1.yb,f1.e.k,f1.e.cl,f1.e.sq,f1.e.ok,f1.e.key,f1.e.old,f1.e.val]) 13 (zae (cs':=#[f0.st,f0.ix,f0.bx,f0.yb,f0.e.k,f0.e.cl,f0.e.sq,f0.e.ok,f0.e.key,f0.e.old,f0.e.val,c.st,c.ix,f1.bx,f1.yb,f1.e.k,f1.e.cl,f1.e.sq,f1.e.ok,f1.e.key,f1.e.old,f1.e.val]) 12 (zae (cs':=#[f0.st,f0.ix,f0.bx,f0.yb,f0.e.k,f0.e.cl,f0.e.sq,f0.e.ok,f0.e.key,f0.e.old,f0.e.val,c.st,f1.ix,f1.bx,f1.yb,f1.e.k,f1.e.cl,f1.e.sq,f1.e.ok,f1.e.key,f1.e.old,f1.e.val]) 11 h.two c.st rfl) c.ix rfl) c.bx rfl) c.yb rfl) c.e.k rfl) c.e.cl rfl) c.e.sq rfl) c.e.ok rfl) c.e.key rfl) c.e.old rfl) c.e.val rfl)
 exact ⟨zah h.rec_ hm (by omega),hr,zah h.z4 hm (by omega),zah h.z5 hm (by omega),(((((((((((h.ext.setCell (p:=⟨g+1+1+1,11,none⟩) ((by have:=h.low;show w.heap.size≤g+1+1+1;omega)) c.st).setCell (p:=⟨g+1+1+1,12,none⟩) ((by have:=h.low;show w.heap.size≤g+1+1+1;omega)) c.ix).setCell (p:=⟨g+1+1+1,13,none⟩) ((by have:=h.low;show w.heap.size≤g+1+1+1;omega)) c.bx).setCell (p:=⟨g+1+1+1,14,none⟩) ((by have:=h.low;show w.heap.size≤g+1+1+1;omega)) c.yb).setCell (p:=⟨g+1+1+1,15,none⟩) ((by have:=h.low;show w.heap.size≤g+1+1+1;omega)) c.e.k).setCell (p:=⟨g+1+1+1,16,none⟩) ((by have:=h.low;show w.heap.size≤g+1+1+1;omega)) c.e.cl).setCell (p:=⟨g+1+1+1,17,none⟩) ((by have:=h.low;show w.heap.size≤g+1+1+1;omega)) c.e.sq).setCell (p:=⟨g+1+1+1,18,none⟩) ((by have:=h.low;show w.heap.size≤g+1+1+1;omega)) c.e.ok).setCell (p:=⟨g+1+1+1,19,none⟩) ((by have:=h.low;show w.heap.size≤g+1+1+1;omega)) c.e.key).setCell (p:=⟨g+1+1+1,20,none⟩) ((by have:=h.low;show w.heap.size≤g+1+1+1;omega)) c.e.old).setCell (p:=⟨g+1+1+1,21,none⟩) ((by have:=h.low;show w.heap.size≤g+1+1+1;omega)) c.e.val),h.low⟩
theorem RLS.put4 (h:RLS w W g p f0 f1) (xs:List Value):zbj (W.setCells g 0 xs) (g+1+1) p∧TwoL (W.setCells g 0 xs) (g+1+1+1) f0 f1∧TwoL (W.setCells g 0 xs) (g+1) {} {}∧Ext w (W.setCells g 0 xs) :=
 ⟨zaC h.rec_ (by omega) 0 xs,zaC h.two (by omega) 0 xs,zaC h.z5 (by omega) 0 xs,zbm h.ext h.low 0 xs⟩
theorem RLS.put5 (h:RLS w W g p f0 f1) (xs ys:List Value):zbj ((W.setCells g 0 xs).setCells (g+1) 0 ys) (g+1+1) p∧TwoL ((W.setCells g 0 xs).setCells (g+1) 0 ys) (g+1+1+1) f0 f1∧Ext w ((W.setCells g 0 xs).setCells (g+1) 0 ys) :=
 ⟨zaC (h.put4 xs).1 (by omega) 0 ys,zaC (h.put4 xs).2.1 (by omega) 0 ys,zbm (h.put4 xs).2.2.2 (by have:=h.low;omega) 0 ys⟩
theorem RLS.fin (h:RLS w W g p f0 f1) (i3:(Tryz.prog.info? 90).map (·.size)=some 5) (i4:(Tryz.prog.info? 93).map (·.size)=some 22) :
 let V:=(W.setCells g 0 p).setCells (g+1) 0 (f0,f1)
 (loadVar 90 ⟨g,0,none⟩).run Tryz.prog V=.ok (.agg p) V∧(loadVar 93 ⟨g+1,0,none⟩).run Tryz.prog V=.ok (.agg (f0,f1)) V∧Ext w V:=by
 intro V
 have h4:=zaC (zbl h.z4 0 p) (show g≠g+1 by omega) 0 (f0,f1)
 have h5:=zbl (h.put4 p).2.2.1 0 (f0,f1)
 rw [arr5] at h4
 rw [ztL] at h5
 exact ⟨run_loadVar_mid V g 0 90 p _ (zau p h4 0) Tryz.underlying90 rfl i3,run_loadVar_mid V (g+1) 0 93 (f0,f1) _ (zau (f0,f1) h5 0) Tryz.underlying93 rfl i4,(h.put5 p (f0,f1)).2.2⟩
end
theorem RLS.make (w:World):RLS w ((((w.alloc (.cells Zk.f 90)).alloc (.cells Zk.a 93)).alloc (.cells Zk.f 90)).alloc (.cells Zk.a 93)) w.heap.size {} {} {}:=by
 have a1:=heap_alloc_new w (.cells Zk.f 90)
 generalize e1:w.alloc (.cells Zk.f 90)=w1 at *
 have s1:w1.heap.size=w.heap.size+1:=by rw [←e1];simp
 have x1:Ext w w1:=by rw [←e1];exact (Ext.refl w).alloc _
 have a2:=heap_alloc_new w1 (.cells Zk.a 93)
 generalize e2:w1.alloc (.cells Zk.a 93)=w2 at *
 have s2:w2.heap.size=w.heap.size+1+1:=by rw [←e2];simp [s1]
 have x2:Ext w1 w2:=by rw [←e2];exact (Ext.refl w1).alloc _
 have a3:=heap_alloc_new w2 (.cells Zk.f 90)
 generalize e3:w2.alloc (.cells Zk.f 90)=w3 at *
 have s3:w3.heap.size=w.heap.size+1+1+1:=by rw [←e3];simp [s2]
 have x3:Ext w2 w3:=by rw [←e3];exact (Ext.refl w2).alloc _
 have a4:=heap_alloc_new w3 (.cells Zk.a 93)
 have x4:Ext w3 (w3.alloc (.cells Zk.a 93)):=(Ext.refl w3).alloc _
 rw [s1] at a2
 rw [s2] at a3
 rw [s3] at a4
 exact ⟨zaa x4 a3,a4,zaa ((x2.trans x3).trans x4) a1,zaa (x3.trans x4) a2,((x1.trans x2).trans x3).trans x4,Nat.le_refl _⟩
end Go.Proofs.YtdbpdhlecgoclaaGreatDoor
