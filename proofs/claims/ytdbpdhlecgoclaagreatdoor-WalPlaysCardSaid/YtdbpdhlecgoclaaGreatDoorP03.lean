/-
  The contracts of the disk's Lose and Flip.
-/
import Derived.Test.YtdbpdhlecgoclaaGreatDoorP00
import Derived.Test.YtdbpdhlecgoclaaGreatDoorP02
import Derived.Deep.RegionHeld3
import Derived.RangeFuncNested
import Derived.RangeFuncBound
import Derived.RangeFuncCalls
import Derived.RangeFuncLeaves
import Derived.Shelf.Abstract
import Derived.Shelf.RegionOpen
import Derived.WalkKit
import Derived.OwnWalkIn
import Derived.TacticsInMore
import Derived.LoopNIn
import Derived.LoopIn
namespace Go.Proofs.YtdbpdhlecgoclaaGreatDoor
set_option maxRecDepth 100000
set_option maxHeartbeats 6400000
open Go Go.RowKit
theorem PD.sec_turned {w w':World} {d g:Nat} {pv:Value} {m:DM} (h:PD w d g pv m) (hm:Mod (fun i=>i=g) w w') (m':DM) (hok:m'.Ok) (hz:m'.size=m.size) (hmed:zcn w' g m') (h1:m'.waits=m.waits) (h2:m'.down=m.down) (h3:m'.dead=m.dead) (h4:m'.power=m.power):PD w' d g pv m':=by
 refine ⟨hok,by rw [hz];exact h.n1,by rw [h4];exact h.top,?_,hmed,?_,h.dg,h.pd⟩
 ·rw [hz,h4,show stOf m'=stOf m by unfold stOf;rw [h2,h3]]
  exact zah h.head hm h.dg
 ·rw [h1]
  exact zas h.pen hm fun i hi=>(h.pd i hi).2
theorem zfu {r m:List Nat} {l:Bool} (hr:r.length=64) (hm:m.length=64) (j:Nat) (v:Value) (h:(secC r m l)[j]?=some v):(j<64∧(vb r)[j]?=some v)∨(64≤j∧j<128∧(vb m)[j-64]?=some v)∨(j=128∧v=.bool l):=by
 unfold secC at h
 by_cases h1:j<64
 ·rw [List.getElem?_append_left (by rw [zag];omega)] at h
  exact .inl ⟨h1,h⟩
 ·rw [List.getElem?_append_right (by rw [zag];omega),zag,hr] at h
  by_cases h2:j<128
  ·rw [List.getElem?_append_left (by rw [zag];omega)] at h
   exact .inr (.inl ⟨by omega,h2,h⟩)
  ·rw [List.getElem?_append_right (by rw [zag];omega),zag,hm] at h
   have hj:j-64-64<1:=(List.getElem?_eq_some_iff.1 h).1
   obtain rfl:j=128:=by omega
   simp at h
   exact .inr (.inr ⟨rfl,h.symm⟩)
theorem zdc {r m:List Nat} {l:Bool} (hr:r.length=64) (hm:m.length=64) (j:Nat) (v:Value) (h:(j<64∧(vb r)[j]?=some v)∨(64≤j∧j<128∧(vb m)[j-64]?=some v)∨(j=128∧v=.bool l)):(secC r m l)[j]?=some v:=by
 unfold secC
 rcases h with ⟨h1,h⟩ | ⟨h1,h2,h⟩ | ⟨rfl,rfl⟩
 ·rw [List.getElem?_append_left (by rw [zag];omega)]
  exact h
 ·rw [List.getElem?_append_right (by rw [zag];omega),zag,hr,List.getElem?_append_left (by rw [zag];omega)]
  exact h
 ·rw [List.getElem?_append_right (by rw [zag];omega),zag,hr,List.getElem?_append_right (by rw [zag];omega),zag,hm]
  rfl
theorem zsD (m:DM) (s:Int):m.lose s=if m.has s=false then (2,m) else (0,{ m with lost:=m.lost.set s.toNat true }):=rfl
theorem ztc {w:World} {d g:Nat} {pv:Value} {m:DM} (h:PD w d g pv m) (s:Int) :
 Calls Tryz.prog 90 #[aD d 0,.int .i64 s] w fun e w'=>e=.returned (.int .i64 (m.lose s).1)∧PD w' d g pv (m.lose s).2∧Mod (fun i=>i=g) w w':=by
 have hx:=(Ext.refl w).alloc (.cells #[.int .i64 s] 3)
 have h1:=h.ext hx
 have hz:=ZsAt.one w s 3
 have hk:=zfz h1 _ 1 1 [s] hz
 rw [zeF] at hk
 have HX:=qj hx
 have H1:=qj h1
 have HP:=qj (zsD m s)
 have HO:=qj (DM.lose_ok h.ok s)
 clear h h1 hx hz
 by_cases hh:m.has s=false
 ·have HP1:Hid (m.lose s=(2,m)):=qj (by rw [HP.out,if_pos hh])
  rw [if_pos hh] at hk
  have HK:=qj hk
  clear hk hh HP
  go_enter Tryz.func90,Tryz.ntmps90
  go_wp2_with fail
  refine HK.out.mono ?_
  rintro e w1 ⟨rfl,rfl⟩
  go_wp2_with fail
  go_ret
  exact ⟨by rw [HP1.out];rfl,by rw [HP1.out];exact H1.out,Mod.of_ext HX.out⟩
 ·rw [if_neg hh] at hk
  have HK:=qj hk
  have HP1:Hid (m.lose s=(0,{ m with lost:=m.lost.set s.toNat true })):=qj (by rw [HP.out,if_neg hh])
  have hhas:m.has s=true:=by simpa using hh
  obtain ⟨hs0,hs1⟩:=DM.has_iff.1 hhas
  obtain ⟨k,rfl⟩:=Int.eq_ofNat_of_zero_le hs0
  have hks:k<m.size:=by omega
  rw [Int.toNat_natCast] at HP1
  clear hk hh hhas HP
  go_enter Tryz.func90,Tryz.ntmps90
  go_wp2_with fail
  refine HK.out.mono ?_
  rintro e w1 ⟨rfl,rfl⟩
  obtain ⟨⟨c0,c1,c2,c3,c4⟩,f0,f1,f2,f3,f4⟩:=H1.out.cells
  generalize w.alloc (.cells #[.int .i64 k] 3)=w1 at *
  obtain ⟨cur,hg,hsz,hcur⟩:=H1.out.med
  have hle:(k+1) * 129≤m.size * 129:=Nat.mul_le_mul_right _ hks
  have hth:=(zei hg (k * 129+128) 1 (by omega)) 0 (by omega)
  rw [Nat.add_zero] at hth
  obtain ⟨u,hu⟩:=Option.isSome_iff_exists.1 hth.1
  have hfr:=hth.2
  clear c0 c1 c2 c4 f0 f1 f2 f3 f4 hg hsz hcur hle hth
  go_wp2_with fail
  go_ret
  have hm:Mod (fun i=>i=g) w1 (w1.setCells g (k * 129+128) [.bool true]):=zcz _ _ _ _
  have hrl:=(H1.out.ok.rest_at hks).1
  have hml:=(H1.out.ok.meant_at hks).1
  refine ⟨by rw [HP1.out];rfl,?_,(Mod.of_ext HX.out).then hm⟩
  have hO:=HO.out
  rw [HP1.out] at hO ⊢
  have hsec:∀i,({ m with lost:=m.lost.set k true }:DM).sec i=if i=k then secC (m.rest.getD k []) (m.meant.getD k []) true else m.sec i:=fun i=>by
   unfold DM.sec
   by_cases e:k=i
   ·subst e
    rw [if_pos rfl]
    simp only
    rw [zbR (show k<m.lost.length by rw [H1.out.ok.lost];exact hks),if_pos rfl]
   ·rw [if_neg fun h=>e h.symm]
    simp only
    rw [zaZ e]
  refine H1.out.sec_turned hm _ hO rfl ?_ rfl rfl rfl rfl
  refine H1.out.med.set (m':={ m with lost:=m.lost.set k true }) hks 128 [.bool true] rfl (by simp) (fun i hi hne=>by rw [hsec,if_neg hne]) (fun i hi=>by
   rw [hsec]
   split
   ·exact zcG hrl hml
   ·exact H1.out.ok.sec_len hi) (fun j v hv=>?_)
  rw [hsec,if_pos rfl] at hv
  rcases zfu hrl hml j v hv with ⟨a1,a2⟩ | ⟨a1,a2,a3⟩ | ⟨rfl,rfl⟩
  ·rw [if_neg (by simp;omega)]
   exact zdc hrl hml j v (.inl ⟨a1,a2⟩)
  ·rw [if_neg (by simp;omega)]
   exact zdc hrl hml j v (.inr (.inl ⟨a1,a2,a3⟩))
  ·rw [if_pos (by simp)]
   rfl
theorem zpm (m:DM) (a b:Int):zbp m.size [a,b]=if m.has a=false∨m.has b=false then 2 else 0:=by
 unfold zbp DM.has
 by_cases ha:0≤a∧a<(m.size:Int)
 ·by_cases hb:0≤b∧b<(m.size:Int)
  ·rw [if_pos (by simp;omega),if_neg (by simp;omega)]
  ·rw [if_neg (by simp;omega),if_pos (by simp;omega)]
 ·rw [if_neg (by simp;omega),if_pos (by simp;omega)]
theorem ZsAt.two (w:World) (a b:Int) (t:TypeId):ZsAt (w.alloc (.cells #[a,b] t)) (some ⟨w.heap.size,0,none⟩) 2 [a,b]:=by
 refine ⟨rfl,by omega,fun _=>⟨_,rfl,fun j z hz=>?_⟩⟩
 rw [World.cell?_alloc_new]
 have hj:j<2:=(List.getElem?_eq_some_iff.1 hz).1
 match j,hj with
 | 0,_=>simp at hz;subst hz;rfl
 | 1,_=>simp at hz;subst hz;rfl
theorem znf (w:World):(isAgg 201).run Tryz.prog w=.ok true w:=by
 unfold isAgg
 rw [Sem.run_bind,run_underlying Tryz.underlying201 w]
 rfl
theorem zjI (w:World):(isAgg 158).run Tryz.prog w=.ok true w:=by
 unfold isAgg
 rw [Sem.run_bind,run_underlying Tryz.underlying158 w]
 rfl
theorem zkT:∃N,N=129∧∀w,(sizeOf 201).run Tryz.prog w=.ok N w:=⟨129,rfl,fun w=>by
 have h:=zqv
 cases hq:Tryz.prog.info? 201 with
 | none=>simp [hq] at h
 | some i=>simp [hq] at h;simp [sizeOf,typeInfo,hq,h]⟩
theorem zhw:∃N,N=65∧∀w,(sizeOf 158).run Tryz.prog w=.ok N w:=⟨65,rfl,fun w=>by
 have h:=zlU
 cases hq:Tryz.prog.info? 158 with
 | none=>simp [hq] at h
 | some i=>simp [hq] at h;simp [sizeOf,typeInfo,hq,h]⟩
theorem lcf (w:World) (g o N:Nat) (cs:List Value) (hl:cs.length=N) (h:w.rangeAt g o cs):(loadCellsFrom ⟨g,o,none⟩ 0 N #[]).run Tryz.prog w=.ok cs.toArray w:=by
 subst hl
 exact run_loadCells_list (P:=Tryz.prog) w ⟨g,o,none⟩ cs (fun j v hv=>by rw [Addr.add_mid];exact h j v hv)
theorem scs (w:World) (t:TypeId) (c:Array Value) (cs:List Value) (hl:c.size=cs.length) (h1:∀v∈cs,v.oneCell'=true):(storeCells ⟨w.heap.size,0,none⟩ cs 0).run Tryz.prog (w.alloc (.cells c t))=.ok () (w.alloc (.cells cs.toArray t)):=by
 have h:=run_storeCells_cells (P:=Tryz.prog) w.heap.size 0 cs 0 (w.alloc (.cells c t)) (fun j hj=>by
  rw [World.cell?_alloc_new,Array.getElem?_eq_getElem (by omega)];rfl) (fun j hj=>World.frozen?_alloc_new _ _ _ _) h1
 rw [h]
 congr 1
 have e:((w.alloc (.cells c t)).setCells w.heap.size (0+0) cs)=w.alloc (.cells cs.toArray t):=by
  have key:∀(vs:List Value) (o:Nat) (c:Array Value),(w.alloc (.cells c t)).setCells w.heap.size o vs=w.alloc (.cells (vs.zipIdx o |>.foldl (fun a (p:Value × Nat)=>a.setIfInBounds p.2 p.1) c) t):=by
   intro vs
   induction vs with
   | nil=>intro o c;rfl
   | cons v r ih =>
    intro o c
    rw [World.setCells,World.setCell_alloc_new,ih]
    rfl
  rw [key]
  have:=zfi cs [] c.toList [] (by rw [Array.length_toList];exact hl)
  simp only [List.length_nil,List.nil_append,List.append_nil] at this
  rw [show (0+0)=0 from rfl]
  congr 2
 exact e
theorem zrQ (m:DM) (a b:Int):m.stray a b=if m.has a=false∨m.has b=false then (2,m) else (0,{ m with rest:=m.rest.set b.toNat (m.rest.getD a.toNat []),lost:=m.lost.set b.toNat (m.lost.getD a.toNat false) }):=rfl
theorem zpQ {w:World} {d g:Nat} {pv:Value} {m:DM} (h:PD w d g pv m) (a b:Int) :
 Calls Tryz.prog 91 #[aD d 0,a,b] w fun e w'=>e=.returned (.int .i64 (m.stray a b).1)∧PD w' d g pv (m.stray a b).2∧Mod (fun i=>i=g) w w':=by
 have hx:=(Ext.refl w).alloc (.cells #[a,b] 3)
 have h1:=h.ext hx
 have hz:=ZsAt.two w a b 3
 have hk:=zfz h1 _ 2 2 [a,b] hz
 rw [zpm] at hk
 have HX:=qj hx
 have H1:=qj h1
 have HP:=qj (zrQ m a b)
 have HO:=qj (DM.stray_ok h.ok a b)
 clear h h1 hx hz
 by_cases hh:m.has a=false∨m.has b=false
 ·have HP1:Hid (m.stray a b=(2,m)):=qj (by rw [HP.out,if_pos hh])
  rw [if_pos hh] at hk
  have HK:=qj hk
  clear hk hh HP
  go_enter Tryz.func91,Tryz.ntmps91
  go_wp2_with fail
  refine HK.out.mono ?_
  rintro e w1 ⟨rfl,rfl⟩
  go_wp2_with fail
  go_ret
  exact ⟨by rw [HP1.out];rfl,by rw [HP1.out];exact H1.out,Mod.of_ext HX.out⟩
 ·rw [if_neg hh] at hk
  have HK:=qj hk
  have HP1:=qj (show m.stray a b=_ by rw [HP.out,if_neg hh])
  have ha1:m.has a=true:=by
   cases hq:m.has a with
   | true=>rfl
   | false=>exact absurd (.inl hq) hh
  have hb1:m.has b=true:=by
   cases hq:m.has b with
   | true=>rfl
   | false=>exact absurd (.inr hq) hh
  obtain ⟨ha0,ha2⟩:=DM.has_iff.1 ha1
  obtain ⟨hb0,hb2⟩:=DM.has_iff.1 hb1
  obtain ⟨k,rfl⟩:=Int.eq_ofNat_of_zero_le ha0
  obtain ⟨l,rfl⟩:=Int.eq_ofNat_of_zero_le hb0
  have hks:k<m.size:=by omega
  have hls:l<m.size:=by omega
  rw [Int.toNat_natCast,Int.toNat_natCast] at HP1
  clear hk hh ha1 hb1 HP
  go_enter Tryz.func91,Tryz.ntmps91
  go_wp2_with fail
  refine HK.out.mono ?_
  rintro e w1 ⟨rfl,rfl⟩
  generalize w.alloc (.cells #[.int .i64 k,.int .i64 l] 3)=w1 at *
  go_wp2_with fail
  obtain ⟨⟨_,_,_,c3,_⟩,_⟩:=H1.out.cells
  obtain ⟨N,hN,hsz⟩:=zkT
  have HN:=qj hN
  have hag:=znf
  have hzv:=zrE
  have hlen:(m.sec k).length=N:=by rw [hN];exact H1.out.ok.sec_len hks
  have hr:w1.rangeAt g (k * N) (m.sec k):=by rw [hN];exact H1.out.med.range hks
  have hld:∀w',World.rangeAt w' g (k * N) (m.sec k)→(loadCellsFrom ⟨g,k * N,none⟩ 0 N #[]).run Tryz.prog w'=.ok (m.sec k).toArray w':=fun w' h=>lcf w' g _ N _ hlen h
  have hst:(storeCells ⟨w1.heap.size,0,none⟩ (m.sec k) 0).run Tryz.prog (w1.alloc (.cells zMed 201)).drew=.ok () (w1.alloc (.cells (m.sec k).toArray 201)).drew:=scs w1.drew 201 zMed (m.sec k) (by rw [zgh,hlen,hN]) (zhE _ _ _)
  have hS0:(w1.drew.cell? (aD d 3)=some (.slice (some ⟨g,0,none⟩) m.size m.size)∧w1.drew.rangeAt g (k * N) (m.sec k)):=⟨c3,hr⟩
  have hS1:((w1.alloc (.cells zMed 201)).drew.cell? (aD d 3)=some (.slice (some ⟨g,0,none⟩) m.size m.size)∧(w1.alloc (.cells zMed 201)).drew.rangeAt g (k * N) (m.sec k)):=⟨(H1.out.ext (((Ext.refl w1).alloc _).drew)).cells.1.2.2.2.1,World.rangeAt_alloc hr _⟩
  have hS2:((w1.alloc (.cells (m.sec k).toArray 201)).drew.cell? (aD d 3)=some (.slice (some ⟨g,0,none⟩) m.size m.size)∧(w1.alloc (.cells (m.sec k).toArray 201)).drew.rangeAt g (k * N) (m.sec k)):=⟨(H1.out.ext (((Ext.refl w1).alloc _).drew)).cells.1.2.2.2.1,World.rangeAt_alloc hr _⟩
  clear hN hr c3
  go_region_held3 (fun w'=>w'.cell? (aD d 3)=some (.slice (some ⟨g,0,none⟩) m.size m.size)∧w'.rangeAt g (k * N) (m.sec k))
   (first | with_reducible exact hS0 | with_reducible exact hS1 | with_reducible exact hS2)
   (fail)
  have hN:=HN.out
  subst hN
  have hE2:=((Ext.refl w1).alloc (.cells (m.sec k).toArray 201)).drew
  have hrn:(w1.alloc (.cells (m.sec k).toArray 201)).drew.rangeAt w1.heap.size 0 (vb (m.rest.getD k [])):=zcE w1 _ _ [] _ _ (zjH m k) 0 rfl
  have hc128:(w1.alloc (.cells (m.sec k).toArray 201)).drew.cell? (aD w1.heap.size 128)=some (.bool (m.lost.getD k false)):=by
   rw [show (w1.alloc (.cells (m.sec k).toArray 201)).drew.cell? (aD w1.heap.size 128)=(w1.alloc (.cells (m.sec k).toArray 201)).cell? (aD w1.heap.size 128) from rfl,World.cell?_alloc_new,List.getElem?_toArray,zky H1.out.ok hks]
  have H2:=qj (H1.out.ext hE2)
  have HX2:=qj (HX.out.trans hE2)
  have hne:w1.heap.size≠g:=Nat.ne_of_gt H1.out.glt
  have hsr:=H1.out.ok.rest_at hks
  clear hS0 hS1 hS2 hst hld hag hzv hsz hlen HN hE2
  generalize (w1.alloc (.cells (m.sec k).toArray 201)).drew=w2 at *
  generalize hR:m.rest.getD k []=R at *
  generalize hL:m.lost.getD k false=L at *
  have HRr:=qj hR
  have HLl:=qj hL
  have hRl:(vb R).length=64:=by rw [zag];exact hsr.1
  have hR1:=zde R
  have HSR:=qj hsr
  generalize hV:vb R=V at *
  have HV:=qj hV
  have hu85:Tryz.prog.underlying 156=some (.array 64 5):=zuE
  have hi85:(Tryz.prog.info? 156).map (·.size)=some V.length:=by rw [hRl];exact zeX
  obtain ⟨cur,hg,hsz,hcur⟩:=H2.out.med
  have hle:(l+1) * 129≤m.size * 129:=Nat.mul_le_mul_right _ hls
  have hth:w2.there g (l * 129) V.length:=zei hg _ _ (by omega)
  obtain ⟨cs1,k1,k2,k3,k4⟩:=zbv V (l * 129) hg (by omega)
  have hth2:∃u,(w2.drew.setCells g (l * 129) V).cell? (aD g (l * 129+128))=some u:=by
   have hlt:l * 129+128<cs1.size:=by omega
   refine ⟨cs1[l * 129+128],?_⟩
   exact cell_of_row (w2.drew.setCells g (l * 129) V) g (l * 129+128) cs1 _ _ (by
    obtain ⟨cs2,q1,q2,q3,q4⟩:=zbv (w:=w2.drew) V (l * 129) hg (by omega)
    have e:cs2=cs1:=by
     apply Array.ext_getElem?
     intro i
     by_cases hi:l * 129≤i∧i<l * 129+V.length
     ·obtain ⟨v,hv⟩:∃v,V[i-l * 129]?=some v:=⟨_,List.getElem?_eq_getElem (by omega)⟩
      have e1:=q3 _ v hv
      have e2:=k3 _ v hv
      rw [show l * 129+(i-l * 129)=i by omega] at e1 e2
      rw [e1,e2]
     ·rw [q4 i (by omega),k4 i (by omega)]
    rw [←e]
    exact q1) |>.trans (Array.getElem?_eq_getElem hlt)
  obtain ⟨u,hcu⟩:=hth2
  have hfu:(w2.drew.setCells g (l * 129) V).frozen? (aD g (l * 129+128))=false:=by
   rw [World.frozen?_setCells]
   exact frozen_of_row w2 g _ _ _ hg
  have hc2:(w2.drew.setCells g (l * 129) V).cell? (aD w1.heap.size 128)=some (.bool L):=by
   rw [World.cell?_setCells_out _ _ _ _ _ (fun h _=>absurd h hne)]
   exact hc128
  have hc3:((w2.drew.setCells g (l * 129) V).setCell (aD g (l * 129+128)) (.bool L)).cell? (aD w1.heap.size 128)=some (.bool L):=by
   rw [World.cell?_setCell_far _ _ _ _ (fun h=>hne h.symm)]
   exact hc2
  have hT0:(w2.drew.rangeAt w1.heap.size 0 V∧w2.drew.cell? (aD w1.heap.size 128)=some (.bool L)∧w2.drew.there g (l * 129) V.length):=⟨hrn,hc128,hth⟩
  have hT1:((w2.drew.setCells g (l * 129) V).rangeAt w1.heap.size 0 V∧(w2.drew.setCells g (l * 129) V).cell? (aD w1.heap.size 128)=some (.bool L)∧(w2.drew.setCells g (l * 129) V).there g (l * 129) V.length) :=
   ⟨World.rangeAt_setCells_apart (w:=w2.drew) hrn g _ V (.inl hne),hc2,World.there_setCells (w:=w2.drew) hth g _ V⟩
  have hT2:(((w2.drew.setCells g (l * 129) V).setCell (aD g (l * 129+128)) (.bool L)).rangeAt w1.heap.size 0 V∧((w2.drew.setCells g (l * 129) V).setCell (aD g (l * 129+128)) (.bool L)).cell? (aD w1.heap.size 128)=some (.bool L)∧((w2.drew.setCells g (l * 129) V).setCell (aD g (l * 129+128)) (.bool L)).there g (l * 129) V.length) :=
   ⟨World.rangeAt_setCells_apart hT1.1 g _ [.bool L] (.inl hne),hc3,World.there_setCells hT1.2.2 g _ [.bool L]⟩
  have HHG:=qj hg
  clear hg hsz hcur hle hth k1 k2 k3 k4 hc2 hc3 hrn hc128 hR hL hV hsr
  go_wp2_with fail
  go_region_held3 (fun w'=>w'.rangeAt w1.heap.size 0 V∧w'.cell? (aD w1.heap.size 128)=some (.bool L)∧w'.there g (l * 129) V.length)
   (first | with_reducible exact hT0 | with_reducible exact hT1 | with_reducible exact hT2)
   (fail)
  clear hT0 hT1 hT2 hcu hfu hu85 hi85
  go_wp2_with fail
  go_ret
  have hR:=HRr.out
  have hL:=HLl.out
  have hv:=HV.out
  subst hv
  have hsrR:=HSR.out.1
  have hml:=(H2.out.ok.meant_at hls).1
  have hrl:=(H2.out.ok.rest_at hls).1
  have hd2:=H2.out.ext (Ext.refl w2).drew
  have hm:Mod (fun i=>i=g) w2 ((w2.drew.setCells g (l * 129) (vb R)).setCell (aD g (l * 129+128)) (.bool L)) :=
   ((Mod.refl (fun i=>i=g) w2).drew.setCells g _ (vb R) (.inl rfl)).own_cell _ _
  refine ⟨by rw [HP1.out];rfl,?_,(Mod.of_ext HX2.out).then hm⟩
  have hO:=HO.out
  rw [HP1.out] at hO ⊢
  have za:({ m with rest:=m.rest.set l R }:DM).size=m.size:=by simp [DM.size]
  have zb:({ m with rest:=m.rest.set l R,lost:=m.lost.set l L }:DM).size=m.size:=by simp [DM.size]
  have seca:∀i,({ m with rest:=m.rest.set l R }:DM).sec i=if i=l then secC R (m.meant.getD l []) (m.lost.getD l false) else m.sec i:=fun i=>by
   unfold DM.sec
   by_cases e:l=i
   ·subst e
    rw [if_pos rfl]
    simp only
    rw [zbR (show l<m.rest.length from hls),if_pos rfl]
   ·rw [if_neg fun h=>e h.symm]
    simp only
    rw [zaZ e]
  have secb:∀i,({ m with rest:=m.rest.set l R,lost:=m.lost.set l L }:DM).sec i=if i=l then secC R (m.meant.getD l []) L else m.sec i:=fun i=>by
   unfold DM.sec
   by_cases e:l=i
   ·subst e
    rw [if_pos rfl]
    simp only
    rw [zbR (show l<m.rest.length from hls),if_pos rfl,zbR (show l<m.lost.length by rw [H2.out.ok.lost];exact hls),if_pos rfl]
   ·rw [if_neg fun h=>e h.symm]
    simp only
    rw [zaZ e,zaZ e]
  have med1:zcn (w2.drew.setCells g (l * 129+0) (vb R)) g { m with rest:=m.rest.set l R }:=by
   refine hd2.med.set (m':={ m with rest:=m.rest.set l R }) hls 0 (vb R) za (by rw [zag];omega) (fun i hi hne=>by rw [seca,if_neg hne]) (fun i hi=>by
    rw [seca]
    split
    ·exact zcG hsrR hml
    ·exact H2.out.ok.sec_len hi) (fun j v hv=>?_)
   rw [seca,if_pos rfl] at hv
   rcases zfu hsrR hml j v hv with ⟨a1,a2⟩ | ⟨a1,a2,a3⟩ | ⟨rfl,rfl⟩
   ·rw [if_pos ⟨by omega,by rw [zag];omega⟩]
    exact a2
   ·rw [if_neg (by rw [zag];omega)]
    exact zdc hrl hml j v (.inr (.inl ⟨a1,a2,a3⟩))
   ·rw [if_neg (by rw [zag];omega)]
    exact zdc hrl hml 128 _ (.inr (.inr ⟨rfl,rfl⟩))
  have med2:zcn ((w2.drew.setCells g (l * 129+0) (vb R)).setCells g (l * 129+128) [.bool L]) g { m with rest:=m.rest.set l R,lost:=m.lost.set l L }:=by
   refine med1.set (m':={ m with rest:=m.rest.set l R,lost:=m.lost.set l L }) (by rw [za];exact hls) 128 [.bool L] (by rw [za,zb]) (by simp) (fun i hi hne=>by rw [seca,secb,if_neg hne,if_neg hne]) (fun i hi=>by
    rw [za] at hi
    rw [secb]
    split
    ·exact zcG hsrR hml
    ·exact H2.out.ok.sec_len hi) (fun j v hv=>?_)
   rw [secb,if_pos rfl] at hv
   rw [seca,if_pos rfl]
   rcases zfu hsrR hml j v hv with ⟨a1,a2⟩ | ⟨a1,a2,a3⟩ | ⟨rfl,rfl⟩
   ·rw [if_neg (by simp;omega)]
    exact zdc hsrR hml j v (.inl ⟨a1,a2⟩)
   ·rw [if_neg (by simp;omega)]
    exact zdc hsrR hml j v (.inr (.inl ⟨a1,a2,a3⟩))
   ·rw [if_pos (by simp)]
    rfl
  exact H2.out.sec_turned hm _ hO zb med2 rfl rfl rfl rfl
section
open Go Go.RowKit Go.Shelf
attribute [local go_sem] Oper.semAt_some
abbrev W65:={ x:Nat × List Nat // Sect x.2 }
abbrev WI:=Int × W65
def encW (x:WI):Array Value:=#[.int .i64 x.1,.agg (wriC x.2.1).toArray]
def zfd (ws:List W65) (k:Nat):List W65:=ws.reverse.take k
theorem zgZ {ws:List W65} {q:Nat} {x:W65} (hx:ws[q]?=some x):zfd ws (ws.length-q)=zfd ws (ws.length-(q+1))++[x]:=by
 have hq:q<ws.length:=(List.getElem?_eq_some_iff.1 hx).1
 unfold zfd
 rw [show ws.length-q=(ws.length-(q+1))+1 by omega,List.take_add_one]
 congr 1
 rw [List.getElem?_reverse (by omega),show ws.length-1-(ws.length-(q+1))=q by omega,hx]
 rfl
theorem zrS (F:Fence) (n:Nat) (h56:F.fn 191) (hro:F.round=none) (hn:1≤n) (l Bs n₀ b cap:Nat) (ws:List W65) (hlen:ws.length≤9000000000000000000) (hb:b<n₀) (hB:Bs<n₀) (J Jx:List WI→World→Prop)
 (hY:∀pre x W,J pre W→pre.length<ws.length→YieldAt F (n-1) Tryz.prog l (encW x) W fun e W' =>
  (e=.returned (.bool true)∧J (pre++[x]) W'∧Below n₀ W W')∨(e=.returned (.bool false)∧Jx (pre++[x]) W'))
 (W:World) (hBs:W.cell? (aD Bs 0)=some (.slice (some ⟨b,0,none⟩) ws.length cap)) (hc:∀j x,ws[j]?=some x→W.rangeAt b (j * 65) (wriC x.1)) (h0:J [] W) :
 CallsIn F n Tryz.prog 191 #[.func (.yield l) #[] #[],aD Bs 0] W fun e W'=>(∃v,e=.returned v) ∧
  ((∃ys:List WI,ys.map (fun p=>p.2)=ws.reverse∧J ys W')∨(∃pre:List WI,(∃k,pre.map (fun p=>p.2)=zfd ws k)∧Jx pre W')):=by
 obtain ⟨N,hN,hsz⟩:=zhw
 have hag:=zjI
 have HN:=qj hN
 obtain ⟨L,hL⟩:∃L,ws.length=L:=⟨_,rfl⟩
 have HL:=qj hL
 have HC:=qj hc
 rw [hL] at hBs hlen
 clear hN hL hc
 refine callsIn_of_wp Tryz.func191 rfl h56 ?_ hro
 simp only [Tryz.ntmps191,List.size_toArray,List.length_cons,List.length_nil,Nat.reduceAdd,Nat.reduceSub,Array.replicate_succ,Array.replicate_zero,List.push_toArray,List.append_toArray,List.nil_append,List.cons_append]
 gi_wp2
 gi_loopw [3] (fun i wr=>∃(q:Nat) (pre:List WI),q≤L∧i=.int .i64 ((q:Int)-1)∧pre.map (fun p=>p.2)=zfd ws (L-q)∧J pre wr∧Below n₀ W wr) (fun i _=>(intOf i+1).toNat)
 case atStart=>exact ⟨L,[],Nat.le_refl _,by go_num,by simp [zfd],h0,Below.refl _ _⟩
 case round =>
  obtain ⟨q,pre,hq,rfl,hpre,hJs,hnx⟩:=hrel
  have HP:=qj hpre
  have HNX:=qj hnx
  have hbs:=(hnx.cell (p:=⟨Bs,0,none⟩) hB).trans hBs
  have hlp:pre.length=L-q:=by
   have h1:=congrArg List.length hpre
   rw [List.length_map] at h1
   rw [h1,zfd,List.length_take,List.length_reverse,HL.out]
   omega
  clear hpre hnx
  cases q with
  | zero =>
   have HF:Hid (pre.map (fun p=>p.2)=ws.reverse):=qj (by
    rw [HP.out,zfd,List.take_of_length_le (by rw [List.length_reverse,HL.out];omega)])
   simp only [Int.natCast_zero,Int.zero_sub] at *
   gi_wp2
   go_end0
   exact ⟨⟨_,rfl⟩,.inl ⟨pre,HF.out,hJs⟩⟩
  | succ q =>
   rw [show ((q+1:Nat):Int)-1=(q:Int) by omega]
   obtain ⟨x,hx⟩:∃x,ws[q]?=some x:=⟨_,List.getElem?_eq_getElem (by rw [HL.out];omega)⟩
   have hr:wr.rangeAt b (q * N) (wriC x.1):=by
    rw [HN.out]
    intro j v hv
    exact (HNX.out.cell (p:=⟨b,q * 65+j,none⟩) hb).trans (HC.out q x hx j v hv)
   have hl65:(wriC x.1).length=N:=by rw [HN.out];exact zcF x.2.1
   have hld:(loadCellsFrom ⟨b,q * N,none⟩ 0 N #[]).run Tryz.prog wr=.ok (wriC x.1).toArray wr:=lcf wr b _ N _ hl65 hr
   obtain ⟨fn,tmps,assign,body,hy,hR⟩:=hY pre ((q:Int),x) wr hJs (by rw [hlp,HL.out];omega)
   have HX:=qj hx
   have hq0:(0:Int)≤(q:Int):=by omega
   have hqL:(q:Int)<(L:Int):=by omega
   dsimp only [encW] at hy
   clear hr hx hl65
   gi_wp2
   refine hR.mono ?_
   rintro e W3 (⟨rfl,hJ3,hk3⟩ | ⟨rfl,hJx3⟩)
   ·gi_wp2
    go_roundw
    case rel=>exact ⟨q,pre++[((q:Int),x)],by omega,by go_num,by
     rw [List.map_append,HP.out]
     have:=zgZ HX.out
     rw [HL.out] at this
     rw [this]
     rfl,hJ3,HNX.out.trans hk3⟩
    case measure=>simp [intOf]
   ·gi_wp2
    refine bodyPost_ret (results_none rfl _ _ _) rfl ?_
    exact ⟨⟨_,rfl⟩,.inr ⟨pre++[((q:Int),x)],⟨L-q,by
     rw [List.map_append,HP.out]
     have:=zgZ HX.out
     rw [HL.out] at this
     rw [this]
     rfl⟩,hJx3⟩⟩
theorem zjT (F:Fence) (n:Nat) (h56:F.fn 191) (hro:F.round=none) (l Bs:Nat) (J:List WI→World→Prop) (W:World) (hBs:W.cell? (aD Bs 0)=some (.slice none 0 0)) (h0:J [] W) :
 CallsIn F n Tryz.prog 191 #[.func (.yield l) #[] #[],aD Bs 0] W fun e W'=>(∃v,e=.returned v)∧J [] W':=by
 refine callsIn_of_wp Tryz.func191 rfl h56 ?_ hro
 simp only [Tryz.ntmps191,List.size_toArray,List.length_cons,List.length_nil,Nat.reduceAdd,Nat.reduceSub,Array.replicate_succ,Array.replicate_zero,List.push_toArray,List.append_toArray,List.nil_append,List.cons_append]
 gi_wp2
 gi_loopw [3] (fun i wr=>i=.int .i64 (-1)∧J [] wr) (fun _ _=>0)
 case atStart=>exact ⟨rfl,h0⟩
 case round =>
  obtain ⟨rfl,hJs⟩:=hrel
  gi_wp2
  go_end0
  exact ⟨⟨_,rfl⟩,hJs⟩
theorem zsS (a:Option Addr) (len cap:Nat) (w:World) :
 Calls Tryz.prog 177 #[.slice a len cap] w fun e w'=>e=.returned (.func (.func 191) #[] #[aD w.heap.size 0])∧w'=w.alloc (.cells #[.slice a len cap] 77):=by
 go_enter Tryz.func177,Tryz.ntmps177
 go_wp2
 go_ret
 exact ⟨rfl,rfl⟩
def zkk (l:List (Nat × List Nat)) (h:∀x∈l,Sect x.2):List W65:=l.attach.map fun y=>⟨y.1,h y.1 y.2⟩
theorem zou (l:List (Nat × List Nat)) (h:∀x∈l,Sect x.2):(zkk l h).map (fun y=>y.1)=l:=by
 unfold zkk
 rw [List.map_map]
 exact List.attach_map_subtype_val l
theorem znU (l:List (Nat × List Nat)) (h:∀x∈l,Sect x.2):(zkk l h).length=l.length:=by simp [zkk]
theorem zmU (n:Nat) (hn:1≤n) {W:World} {d g:Nat} {pv:Value} {m:DM} (h:PD W d g pv m) (hfew:m.waits.length≤9000000000000000000) (Bs:Nat) (hBs:W.cell? (aD Bs 0)=some pv) :
 SeqStopsK Fence.wide n Tryz.prog 191 #[aD Bs 0] encW (Below W.heap.size)
  (fun ys:List WI=>ys.map (fun p=>p.2.1)=m.waits.reverse) (fun pre:List WI=>∃k,pre.map (fun p=>p.2.1)=m.waits.reverse.take k) m.waits.length W:=fun l J Jx V hV _ _ hY h0=>by
 have hBl:Bs<W.heap.size:=World.block_lt_of_cell? W _ hBs
 have hBs':=(hV.cell (p:=⟨Bs,0,none⟩) hBl).trans hBs
 have hws:∀x∈m.waits,Sect x.2:=fun x hx=>(h.ok.waits x hx).2
 have hmp:=zou m.waits hws
 have hml:=znU m.waits hws
 have conv:∀ys:List WI,ys.map (fun p=>p.2.1)=(ys.map (fun p=>p.2)).map (fun y=>y.1):=fun ys=>by rw [List.map_map];rfl
 rcases h.pen.2 with ⟨e,hz⟩ | ⟨b,cap,cur,e,_,hg,_⟩
 ·rw [e] at hBs'
  have hm0:m.waits=[]:=List.eq_nil_of_length_eq_zero hz
  exact (zjT Fence.wide n trivial rfl l Bs J V hBs' h0).mono fun e W' ⟨he,hj⟩=>⟨he,.inl ⟨[],by rw [hm0];rfl,hj⟩⟩
 ·rw [e,←hml] at hBs'
  have hb:b<W.heap.size:=(Array.getElem?_eq_some_iff.1 hg).1
  refine (zrS Fence.wide n trivial rfl hn l Bs W.heap.size b cap (zkk m.waits hws) (by rw [hml];exact hfew) hb hBl J Jx (fun pre x W' hj hlt=>hY pre x W' hj (by rw [←hml];exact hlt)) V hBs' (fun j x hx=>?_) h0).mono ?_
  ·have hx2:m.waits[j]?=some x.1:=by
    rw [←hmp,List.getElem?_map,hx]
    rfl
   obtain ⟨b',c',e2,hr⟩:=h.pen_at hx2
   rw [e] at e2
   injection e2 with e3 _ _
   injection e3 with e3
   injection e3 with e3
   subst e3
   intro i v hv
   exact (hV.cell (p:=⟨b,j * 65+i,none⟩) hb).trans (hr i v hv)
  ·rintro e W' ⟨he,⟨ys,hys,hj⟩ | ⟨pre,⟨k,hk⟩,hj⟩⟩
   ·exact ⟨he,.inl ⟨ys,(conv ys).trans (by rw [hys,List.map_reverse,hmp]),hj⟩⟩
   ·exact ⟨he,.inr ⟨pre,⟨k,(conv pre).trans (by rw [hk,zfd,List.map_take,List.map_reverse,hmp])⟩,hj⟩⟩
end
end Go.Proofs.YtdbpdhlecgoclaaGreatDoor
