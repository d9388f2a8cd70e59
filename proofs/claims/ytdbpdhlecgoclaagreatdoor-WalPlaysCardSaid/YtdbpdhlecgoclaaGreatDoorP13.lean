/-
  The document's disk: Start,SetPower,spend,Lose,Stray.
-/
import Derived.Test.YtdbpdhlecgoclaaGreatDoorP00
import Derived.Test.YtdbpdhlecgoclaaGreatDoorP01
import Derived.Test.YtdbpdhlecgoclaaGreatDoorP02
import Derived.Test.YtdbpdhlecgoclaaGreatDoorP05
import Derived.Test.YtdbpdhlecgoclaaGreatDoorP12
import Derived.Deep.RegionWith
import Derived.Deep.AppendLies
import Derived.Deep.RegionLaw
namespace Go.Proofs.YtdbpdhlecgoclaaGreatDoor
set_option maxRecDepth 100000
set_option maxHeartbeats 6400000
open Go Go.RowKit
section
variable {w:World} {d:Nat} {p:Nat→Nat} {m:DM}
theorem RDq.head_out {w':World} {q:Nm} {m':DM} (h:RDq w d p q m) (hlt:∀k,p k≠0→k<w.heap.size) (k:Mod (fun i=>i=d) w w') (hd:RHead w' d q.gr q.cr q.gm q.cm q.gl q.cl q.pv m') (h1:m'.rest=m.rest) (h2:m'.meant=m.meant) (h3:m'.lost=m.lost) (h4:m'.waits=m.waits) (h5:-1≤m'.power∧m'.power≤9223372036854775807):ROut d p w m' w' :=
 ⟨p,⟨⟨q,h.setHead k hd h1 h2 h3 h4 h5⟩,fun i hi=>Nat.lt_of_lt_of_le (hlt i hi) k.size⟩,k.mono fun i hi=>by rw [hi,h.pd];omega,fun i hi=>.inl hi⟩
theorem zmg (h:RD w d p m):Calls Tryz.prog 101 #[aD d 0] w fun e w'=>e=.returned m.start.1∧ROut d p w m.start.2 w':=by
 obtain ⟨⟨q,hq⟩,hlt⟩:=h
 refine (zoV hq.head).mono fun e w' ⟨h1,h2,h3⟩=>⟨h1,hq.head_out hlt h3 h2 ?_ ?_ ?_ ?_ ?_⟩
 ·unfold DM.start;split <;> rfl
 ·unfold DM.start;split <;> rfl
 ·unfold DM.start;split <;> rfl
 ·unfold DM.start;split <;> rfl
 ·unfold DM.start;split
  ·exact ⟨hq.ok.power,hq.few⟩
  ·exact ⟨Int.le_refl _,by show (-1:Int)≤_;omega⟩
theorem zmf (h:RD w d p m) (n:Int) (hn:n≤9223372036854775807):Calls Tryz.prog 105 #[aD d 0,.int .i64 n] w fun e w'=>e=.returned (.int .i64 (m.setPower n).1)∧ROut d p w (m.setPower n).2 w':=by
 obtain ⟨⟨q,hq⟩,hlt⟩:=h
 refine (zoI hq.head n).mono fun e w' ⟨h1,h2,h3⟩=>⟨h1,hq.head_out hlt h3 h2 ?_ ?_ ?_ ?_ ?_⟩
 ·unfold DM.setPower;split
  ·rfl
  ·split <;> rfl
 ·unfold DM.setPower;split
  ·rfl
  ·split <;> rfl
 ·unfold DM.setPower;split
  ·rfl
  ·split <;> rfl
 ·unfold DM.setPower;split
  ·rfl
  ·split <;> rfl
 ·unfold DM.setPower;split
  ·exact ⟨hq.ok.power,hq.few⟩
  ·split
   ·exact ⟨hq.ok.power,hq.few⟩
   ·exact ⟨by show (-1:Int)≤n;omega,hn⟩
theorem zgO {q:Nm} (hq:RDq w d p q m):Calls Tryz.prog 107 #[aD d 0] w fun e w'=>e=.returned (.bool (decide (m.power≠0)))∧RDq w' d p q (zaF m)∧Mod (fun i=>i=d) w w':=by
 refine (zoy hq.head ⟨hq.ok.power,hq.few⟩).mono fun e w' ⟨h1,h2,h3⟩=>⟨h1,hq.setHead h3 h2 ?_ ?_ ?_ ?_ ?_,h3⟩
 ·unfold zaF;split <;> rfl
 ·unfold zaF;split <;> rfl
 ·unfold zaF;split <;> rfl
 ·unfold zaF;split <;> rfl
 ·unfold zaF
  have:=hq.few
  have:=hq.ok.power
  split
  ·exact ⟨hq.ok.power,hq.few⟩
  ·refine ⟨zff hq.ok.power,?_⟩
   show lessP m.power≤_
   unfold lessP
   split <;> omega
theorem zoM (h:RD w d p m) (s:Int):Calls Tryz.prog 103 #[aD d 0,.int .i64 s] w fun e w'=>e=.returned (.int .i64 (m.lose s).1)∧ROut d p w (m.lose s).2 w':=by
 obtain ⟨⟨q,hq⟩,hlt⟩:=h
 have hh:=zel hq.head s
 have HQ:=qj hq
 have HLT:=qj hlt
 by_cases hs:m.has s=false
 ·rw [hs] at hh
  have HH:=qj hh
  have HE:Hid (m.lose s=(2,m)):=qj (by unfold DM.lose;rw [if_pos hs])
  clear hh hs hq hlt
  go_enter Tryz.func103,Tryz.ntmps103
  go_wp2_with fail
  refine HH.out.mono ?_
  rintro e w1 ⟨rfl,rfl⟩
  go_wp2_with fail
  go_ret
  rw [HE.out]
  exact ⟨rfl,p,⟨⟨q,HQ.out⟩,HLT.out⟩,Mod.refl _ _,fun k hk=>.inl hk⟩
 ·have hs':m.has s=true:=by simpa using hs
  obtain ⟨s0,s1⟩:=DM.has_iff.1 hs'
  obtain ⟨k,rfl⟩:=Int.eq_ofNat_of_zero_le s0
  have hk:k<m.size:=by omega
  rw [hs'] at hh
  have HH:=qj hh
  have HE:Hid (m.lose (k:Int)=(0,{ m with lost:=m.lost.set k true })):=qj (by unfold DM.lose;rw [if_neg hs,Int.toNat_natCast])
  obtain ⟨⟨_,_,d2,_⟩,_⟩:=hq.head.cells
  obtain ⟨hc,hf,hl⟩:=hq.lostAt hk
  have hsz:=hq.head.n1.2
  clear hh hs hs' hq hlt
  go_enter Tryz.func103,Tryz.ntmps103
  go_wp2_with fail
  refine HH.out.mono ?_
  rintro e w1 ⟨rfl,rfl⟩
  go_wp2_with fail
  go_ret
  rw [HE.out]
  exact ⟨rfl,p,⟨⟨q,HQ.out.setLost k true⟩,fun i hi=>by have:=HLT.out i hi;simpa [World.setCell] using this⟩,(zaQ w q.gl k (.bool true)).mono fun i hi=>by rw [hi,HQ.out.pl];omega,fun k hk=>.inl hk⟩
theorem zlV (h:RD w d p m) (a b:Int):Calls Tryz.prog 104 #[aD d 0,a,b] w fun e w'=>e=.returned (.int .i64 (m.stray a b).1)∧ROut d p w (m.stray a b).2 w':=by
 obtain ⟨⟨q,hq⟩,hlt⟩:=h
 have hha:=zel hq.head a
 have hhb:=zel hq.head b
 have HQ:=qj hq
 have HLT:=qj hlt
 by_cases ha:m.has a=false
 ·rw [ha] at hha
  have HH:=qj hha
  have HE:Hid (m.stray a b=(2,m)):=qj (by unfold DM.stray;rw [if_pos (.inl ha)])
  clear hha hhb ha hq hlt
  go_enter Tryz.func104,Tryz.ntmps104
  go_wp2_with fail
  refine HH.out.mono ?_
  rintro e w1 ⟨rfl,rfl⟩
  go_wp2_with fail
  go_ret
  rw [HE.out]
  exact ⟨rfl,p,⟨⟨q,HQ.out⟩,HLT.out⟩,Mod.refl _ _,fun k hk=>.inl hk⟩
 by_cases hb:m.has b=false
 ·rw [show m.has a=true by simpa using ha] at hha
  rw [hb] at hhb
  have HH:=qj hha
  have HHb:=qj hhb
  have HE:Hid (m.stray a b=(2,m)):=qj (by unfold DM.stray;rw [if_pos (.inr hb)])
  clear hha hhb ha hb hq hlt
  go_enter Tryz.func104,Tryz.ntmps104
  go_wp2_with fail
  refine HH.out.mono ?_
  rintro e w1 ⟨rfl,rfl⟩
  go_wp2_with fail
  refine HHb.out.mono ?_
  rintro e w1 ⟨rfl,rfl⟩
  go_wp2_with fail
  go_ret
  rw [HE.out]
  exact ⟨rfl,p,⟨⟨q,HQ.out⟩,HLT.out⟩,Mod.refl _ _,fun k hk=>.inl hk⟩
 ·have ha':m.has a=true:=by simpa using ha
  have hb':m.has b=true:=by simpa using hb
  obtain ⟨a0,a1⟩:=DM.has_iff.1 ha'
  obtain ⟨b0,b1⟩:=DM.has_iff.1 hb'
  obtain ⟨i,rfl⟩:=Int.eq_ofNat_of_zero_le a0
  obtain ⟨j,rfl⟩:=Int.eq_ofNat_of_zero_le b0
  have hi:i<m.size:=by omega
  have hj:j<m.size:=by omega
  rw [ha'] at hha
  rw [hb'] at hhb
  have HH:=qj hha
  have HHb:=qj hhb
  have HE:Hid (m.stray (i:Int) (j:Int)=(0,{ m with rest:=m.rest.set j (m.rest.getD i []),lost:=m.lost.set j (m.lost.getD i false) })):=qj (by unfold DM.stray;rw [if_neg (fun h=>h.elim ha hb),Int.toNat_natCast,Int.toNat_natCast])
  obtain ⟨⟨d0,_,d2,_⟩,_⟩:=hq.head.cells
  obtain ⟨x,hx,hxc,_,_⟩:=hq.restAt hi
  obtain ⟨y,hy,hyc,hyf,hyl⟩:=hq.restAt hj
  have hsec:Sect (m.rest.getD i []):=by
   have hil:i<m.rest.length:=hi
   rw [List.getD_eq_getElem?_getD,List.getElem?_eq_getElem hil,Option.getD_some]
   exact hq.ok.rests _ (List.getElem_mem hil)
  have HSEC:=qj hsec
  have HBY:Hid (By w.drew (some ⟨x.1,0,none⟩) 64 x.2 (m.rest.getD i [])):=qj (((hq.rb i x hx).2.by hsec.2).ext (Ext.refl w).drew)
  have HQd:=qj (hq.ext (Ext.refl w).drew)
  have hsz:=hq.head.n1.2
  unfold slV at hxc hyc
  have HI:=qj hi
  have HJ:=qj hj
  clear hha hhb ha hb ha' hb' hq hlt hx hy hsec
  go_enter Tryz.func104,Tryz.ntmps104
  go_wp2_with fail
  refine HH.out.mono ?_
  rintro e w1 ⟨rfl,rfl⟩
  go_wp2_with fail
  refine HHb.out.mono ?_
  rintro e w1 ⟨rfl,rfl⟩
  go_wp2_with fail
  go_region_with (go_at_call 108;refine (zcy (some ⟨x.1,0,none⟩) (m.rest.getD i []) 64 x.2 _ HBY.out (by omega)).mono ?_;rintro e w2 ⟨A1,c1,rfl,_,hx,ho⟩;obtain ⟨bk,rfl,g1,g2,hb1⟩:=zey ho;have HK1:=qj hx;have HY1:=qj hb1;obtain ⟨y1,_,hc1,hf1,hl1⟩:=(HQd.out.ext hx).restAt HJ.out;obtain ⟨⟨d0w,_⟩,_⟩:=(HQd.out.ext hx).head.cells;clear hx ho hb1)
  all_goals
   have hQ1:RDq (w2.setCell (aD q.gr j) (slV (bk,c1))) d (part p bk (7+j)) { q with RB:=q.RB.set j (bk,c1) } { m with rest:=m.rest.set j (m.rest.getD i []) }:=((HQd.out.recast (p':=part p bk (7+j)) (zef g1)).ext HK1.out).setRest HJ.out HSEC.out HY1.out (zbI _ _ _)
   have hM1:Mod (fun k=>p k≠0) w (w2.setCell (aD q.gr j) (slV (bk,c1))):=((Mod.of_ext ((Ext.refl w).drew.trans HK1.out)).trans (zaQ w2 q.gr j (slV (bk,c1))) fun i hi=>.inl (by rw [hi,HQ.out.pr];omega))
   have hn1:w.heap.size≤bk∧bk<(w2.setCell (aD q.gr j) (slV (bk,c1))).heap.size:=⟨g1,by simpa [World.setCell] using g2⟩
   have hsz1:(w2.setCell (aD q.gr j) (slV (bk,c1))).heap.size=w2.heap.size:=by simp [World.setCell]
   rw [show Value.slice (some ⟨bk,0,none⟩) 64 c1=slV (bk,c1) from rfl]
   obtain ⟨X1,hX1⟩:∃X,w2.setCell (aD q.gr j) (slV (bk,c1))=X:=⟨_,rfl⟩
   rw [hX1] at hQ1 hM1 hn1
   rw [hX1]
   have HQ1:=qj hQ1
   have HM1:=qj hM1
   have HN1:=qj hn1
   obtain ⟨⟨_,_,e2,_⟩,_⟩:=hQ1.head.cells
   have e2':X1.cell? (aD d 2)=some (.slice (some ⟨q.gl,0,none⟩) m.size q.cl):=by have:=e2;simp only [DM.size,List.length_set] at this ⊢;exact this
   obtain ⟨hli,_,_⟩:=hQ1.lostAt (s:=i) (by simp only [DM.size,List.length_set];exact HI.out)
   obtain ⟨hlj,hfj,hll⟩:=hQ1.lostAt (s:=j) (by simp only [DM.size,List.length_set];exact HJ.out)
   clear hQ1 hM1 hn1 hX1 hsz1 e2 HK1 HY1 hc1 hf1 hl1 d0w g1 g2 d0 d2 hxc hyc hyf hyl
   go_wp2_with fail
   go_region
   go_wp2_with fail
   go_ret
   rw [HE.out]
   have hM3:Mod (fun k=>p k≠0) w (X1.setCell (aD q.gl j) (.bool (m.lost.getD i false))).drew:=((HM1.out.trans (zaQ X1 q.gl j (.bool (m.lost.getD i false))) fun i hi=>.inl (by rw [hi,HQ.out.pl];omega))).drew
   have hs3:(X1.setCell (aD q.gl j) (.bool (m.lost.getD i false))).drew.heap.size=X1.heap.size:=by show (X1.setCell (aD q.gl j) (.bool (m.lost.getD i false))).heap.size=_;simp [World.setCell]
   refine ⟨rfl,part p bk (7+j),⟨⟨_,(HQ1.out.setLost j (m.lost.getD i false)).ext (Ext.refl _).drew⟩,fun k hk=>?_⟩,hM3,fun k hk=>?_⟩
   ·refine Nat.lt_of_lt_of_le (m:=X1.heap.size) ?_ (Nat.le_of_eq hs3.symm)
    rcases zbe hk with rfl | hk
    ·exact HN1.out.2
    ·exact Nat.lt_of_lt_of_le (HLT.out k hk) HM1.out.size
   ·rcases zbe hk with rfl | hk
    ·exact .inr HN1.out.1
    ·exact .inl hk
end
theorem zkK:∀{l:List (Nat × List Nat)} {r:List (Nat × Nat)} {k:Nat} {x:Nat × List Nat} {y:Nat × Nat},l[k]?=some x→r[k]?=some y→(zdN l r)[k * 2]?=some (.int .i64 (x.1:Int))∧(zdN l r)[k * 2+1]?=some (slV y)
 | [],_,k,x,y,h,_=>by simp at h
 | _ :: _,[],k,x,y,_,h=>by simp at h
 | a :: l,b :: r,0,x,y,h,h2=>by
  simp only [List.getElem?_cons_zero,Option.some.injEq] at h h2
  subst h;subst h2
  exact ⟨rfl,rfl⟩
 | a :: l,b :: r,k+1,x,y,h,h2=>by
  simp only [List.getElem?_cons_succ] at h h2
  have:=zkK h h2
  rw [show (k+1) * 2=k * 2+2 by omega,show k * 2+2+1=k * 2+1+2 by omega]
  exact this
theorem RDq.waitAt {w:World} {d:Nat} {p:Nat→Nat} {q:Nm} {m:DM} (h:RDq w d p q m) {k:Nat} (hk:k<m.waits.length):∃g c x y,q.pv=.slice (some ⟨g,0,none⟩) m.waits.length c∧m.waits[k]?=some x∧q.WB[k]?=some y∧w.cell? (aD g (k * 2))=some (.int .i64 (x.1:Int))∧w.cell? (aD g (k * 2+1))=some (slV y)∧p y.1=6∧Byt w y x.2∧x.1<m.size∧Sect x.2:=by
 obtain ⟨x,hx⟩:∃x,m.waits[k]?=some x:=⟨_,List.getElem?_eq_getElem hk⟩
 obtain ⟨y,hy⟩:∃y,q.WB[k]?=some y:=⟨_,List.getElem?_eq_getElem (by rw [h.wl];exact hk)⟩
 obtain ⟨w1,w2⟩:=zkK hx hy
 have hw:=h.ok.waits x (List.mem_of_getElem? hx)
 have hb:=h.wb k y hy
 rw [List.getD_eq_getElem?_getD,hx,Option.getD_some] at hb
 rcases h.pen.2 with ⟨_,h0⟩ | ⟨g,cap,cur,hv,_,hg,hrest⟩
 ·omega
 ·have hc:=h.pen.cells (g:=g) (by rw [hv];rfl)
  have e1:=hc _ _ w1
  have e2:=hc _ _ w2
  rw [Addr.add_lit,Nat.zero_add] at e1 e2
  exact ⟨g,cap,x,y,hv,hx,hy,e1,e2,hb.1,hb.2,hw.1,hw.2⟩
section
variable {w:World} {d:Nat} {p:Nat→Nat} {m:DM}
end
theorem zdT:(Tryz.prog.info? 162).map (fun i=>(i.zero,i.size,i.bytes))=some (some (.agg #[.int .i64 0,.slice none 0 0]),2,32):=by kernel_rfl
theorem zhB:∀{l:List (Nat × List Nat)} {r:List (Nat × Nat)} (x:Nat × List Nat) (y:Nat × Nat),r.length=l.length→zdN (l++[x]) (r++[y])=zdN l r++[.int .i64 (x.1:Int),slV y]
 | [],[],x,y,_=>rfl
 | [],_ :: _,x,y,h=>by simp at h
 | _ :: _,[],x,y,h=>by simp at h
 | a :: l,b :: r,x,y,h=>by
  have:=zhB (l:=l) (r:=r) x y (by simpa using h)
  show .int .i64 (a.1:Int) :: slV b :: zdN (l++[x]) (r++[y])=_
  rw [this]
  rfl
theorem zhT {α:Type} {l:List α} {x y:α} {j:Nat} (h:(l++[x])[j]?=some y):(j<l.length∧l[j]?=some y)∨(j=l.length∧y=x):=by
 by_cases hj:j<l.length
 ·rw [List.getElem?_append_left hj] at h
  exact .inl ⟨hj,h⟩
 ·rw [List.getElem?_append_right (by omega)] at h
  have h0:j-l.length=0:=by
   by_cases h1:j-l.length=0
   ·exact h1
   ·have:=(List.getElem?_eq_some_iff.1 h).1
    simp at this
    omega
  rw [h0] at h
  simp at h
  exact .inr ⟨by omega,h.symm⟩
theorem RDq.pend {w w4:World} {d:Nat} {p:Nat→Nat} {q:Nm} {m:DM} (h:RDq w d p q m) {s b1 c1 bk cap:Nat} {b:List Nat} (hx:Byt w (b1,c1) b) (hp:p b1=6) (hs:s<m.size) (hb:Sect b)
 (hown:w4.ownsRow 0 162 2 (.slice (some ⟨bk,0,none⟩) (m.waits.length+1) cap) (m.waits.length+1) (zdN m.waits q.WB++[.int .i64 (s:Int),slV (b1,c1)])) (hgrow:w.grownBy w4 q.pv.ownBlock) (hat:q.pv.ownBlock=some bk∨bk=w.heap.size) (_:bk<w4.heap.size) :
 RDq (w4.setCell (aD d 3) (.slice (some ⟨bk,0,none⟩) (m.waits.length+1) cap)) d (part p bk 5) { q with pv:=.slice (some ⟨bk,0,none⟩) (m.waits.length+1) cap,WB:=q.WB++[(b1,c1)] } { m with waits:=m.waits++[(s,b)] } ∧
  Mod (fun k=>p k≠0) w (w4.setCell (aD d 3) (.slice (some ⟨bk,0,none⟩) (m.waits.length+1) cap)):=by
 have hpb:∀k,k<w.heap.size→part p bk 5 k=p k:=fun k hk=>by
  unfold part
  split
  ·rename_i e
   subst e
   rcases hat with e | e
   ·exact (h.pp _ e).symm
   ·omega
  ·rfl
 have k:Mod (fun i=>i=d∨q.pv.ownBlock=some i) w (w4.setCell (aD d 3) (.slice (some ⟨bk,0,none⟩) (m.waits.length+1) cap)) :=
  ((Mod.refl _ w).grown hgrow fun i hi=>.inl (.inr hi)).setCell (p:=⟨d,3,none⟩) (.inl (.inl rfl)) _
 have hr:=h.recast hpb
 have ne:∀i r,part p bk 5 i=r→r≠1→r≠5→¬(i=d∨q.pv.ownBlock=some i):=fun i r hi h1 h5 e=>by
  rcases e with e | e
  ·rw [e,hr.pd] at hi;omega
  ·have:=hr.pp i e;omega
 have own:=fun {e s n:Nat} {v:Value} {xs:List Value} (ho:w.ownsRow 0 e s v n xs) (r:Nat) (h1:r≠1) (h5:r≠5) (hv:∀i,v.ownBlock=some i→part p bk 5 i=r)=>zas ho k fun i hi=>ne i r (hv i hi) h1 h5
 have hdp:¬q.pv.ownBlock=some d:=fun e=>by have:=h.pp d e;have:=h.pd;omega
 have hh4:=(hgrow.block d (Array.getElem?_eq_some_iff.1 h.head.head).1 (fun e=>hdp e.symm)).trans h.head.head
 have hne:bk≠d:=fun e=>by
  rcases hat with e2 | e2
  ·rw [e] at e2;exact hdp e2
  ·have:=h.lts.1;omega
 refine ⟨⟨⟨h.ok.meant,h.ok.lost,h.ok.rests,h.ok.means,fun x hx2=>?_,h.ok.power⟩,?_,own h.rr 2 (by omega) (by omega) (fun i hi=>by injection hi with hi;subst hi;exact hr.pr),own h.rm 3 (by omega) (by omega) (fun i hi=>by injection hi with hi;subst hi;exact hr.pm),own h.rl 4 (by omega) (by omega) (fun i hi=>by injection hi with hi;subst hi;exact hr.pl),?_,?_,?_,?_,?_,hr.pd,hr.pr,hr.pm,hr.pl,?_,h.few⟩,k.mono ?_⟩
 ·rcases List.mem_append.1 hx2 with hx2 | hx2
  ·exact h.ok.waits x hx2
  ·simp only [List.mem_singleton] at hx2
   subst hx2
   exact ⟨hs,hb⟩
 ·exact ⟨zae 3 hh4 _ rfl,h.head.n1⟩
 ·intro i y hy
  exact ⟨(hr.rb i y hy).1,(hr.rb i y hy).2.mod k (ne _ _ (hr.rb i y hy).1 (by omega) (by omega))⟩
 ·intro i y hy
  exact ⟨(hr.mb i y hy).1,(hr.mb i y hy).2.mod k (ne _ _ (hr.mb i y hy).1 (by omega) (by omega))⟩
 ·show (q.WB++[(b1,c1)]).length=(m.waits++[(s,b)]).length
  rw [List.length_append,List.length_append,h.wl]
  rfl
 ·intro i y hy
  rcases zhT hy with ⟨hi,hy⟩ | ⟨hi,rfl⟩
  ·refine ⟨(hr.wb i y hy).1,?_⟩
   show Byt _ y ((m.waits++[(s,b)]).getD i (0,[])).2
   rw [List.getD_eq_getElem?_getD,List.getElem?_append_left (by rw [←h.wl];exact hi),←List.getD_eq_getElem?_getD]
   exact (hr.wb i y hy).2.mod k (ne _ _ (hr.wb i y hy).1 (by omega) (by omega))
  ·have h6:part p bk 5 b1=6:=(hpb _ hx.lt).trans hp
   refine ⟨h6,?_⟩
   show Byt _ (b1,c1) ((m.waits++[(s,b)]).getD i (0,[])).2
   rw [hi,h.wl,List.getD_eq_getElem?_getD,List.getElem?_append_right (Nat.le_refl _),Nat.sub_self]
   exact hx.mod k (ne _ _ h6 (by omega) (by omega))
 ·show World.ownsRow _ 0 _ 2 _ (m.waits++[(s,b)]).length (zdN (m.waits++[(s,b)]) (q.WB++[(b1,c1)]))
  rw [zhB _ _ h.wl,List.length_append]
  exact zas hown (zaQ w4 d 3 _) fun i hi=>by
   injection hi with hi
   subst hi
   exact hne
 ·intro i hi
  injection hi with hi
  subst hi
  exact zbI _ _ _
 ·intro i hi
  rcases hi with e | e
  ·rw [e,h.pd];omega
  ·rw [h.pp i e];omega
theorem zpf {w w':World} {g i:Nat} {v:Value} (h:Ext w w') (hc:w.cell? (aD g i)=some v):w'.cell? (aD g i)=some v:=(Below.cell h (p:=⟨g,i,none⟩) (World.block_lt_of_cell? w _ hc)).trans hc
theorem zuN {w:World} {d:Nat} {p:Nat→Nat} {q:Nm} {m:DM} {l:List (Nat × List Nat)} (h:RDq w d p q m) (hl:m.waits=l):w.ownsRow 0 162 2 q.pv l.length (zdN l q.WB):=by
 subst hl
 exact h.pen
theorem zuX (w:World) (x y:Value) (t:TypeId):∀j u,([x,y]:List Value)[j]?=some u→(w.alloc (.cells #[x,y] t)).cell? ((⟨w.heap.size,0,none⟩:Addr).add j)=some u:=by
 intro j u hu
 rw [Addr.add_lit,Nat.zero_add,World.cell?_alloc_new]
 exact (List.getElem?_toArray ..).trans hu
theorem one2 (j:Int) (b c:Nat):∀u∈([.int .i64 j,.slice (some ⟨b,0,none⟩) 64 c]:List Value),u.oneCell'=true:=by
 intro u hu
 simp only [List.mem_cons,List.not_mem_nil,or_false] at hu
 rcases hu with rfl | rfl <;> rfl
theorem zsW {w:World} {d:Nat} {p:Nat→Nat} {q:Nm} {m:DM} (h:RDq w d p q m):some d≠q.pv.ownBlock:=fun e=>by
 have:=h.pp d e.symm
 have:=h.pd
 omega
theorem zhO {w w4:World} {d:Nat} {p:Nat→Nat} {q:Nm} {m:DM} (h:RDq w d p q m) (hg:w.grownBy w4 q.pv.ownBlock):w4.heap[d]?=w.heap[d]?:=hg.block d h.lts.1 (zsW h)
theorem zpw {w w4:World} {d:Nat} {p:Nat→Nat} {q:Nm} {m:DM} (h:RDq w d p q m) (hg:w.grownBy w4 q.pv.ownBlock):w4.cell? (aD d 3)=some q.pv:=cell_of_row w4 d 3 _ _ _ ((zhO h hg).trans h.head.head)
theorem zpi {w w4:World} {d:Nat} {p:Nat→Nat} {q:Nm} {m:DM} (h:RDq w d p q m) (hg:w.grownBy w4 q.pv.ownBlock):w4.frozen? (aD d 3)=false:=frozen_of_row w4 d 3 _ _ ((zhO h hg).trans h.head.head)
theorem zsJ {w w4:World} {d:Nat} {p:Nat→Nat} {q:Nm} {m:DM} (h:RDq w d p q m) (hg:w.grownBy w4 q.pv.ownBlock):d<w4.heap.size:=Nat.lt_of_lt_of_le h.lts.1 hg.size
section
variable {w:World} {d:Nat} {p:Nat→Nat} {m:DM}
theorem zhD {m:DM} (h:m.up=false):m.down=true∨(m.down=false∧m.dead=true):=by
 unfold DM.up at h
 cases h1:m.down <;> cases h2:m.dead <;> simp_all
theorem zjJ {m:DM} (h:m.up=true):m.down=false∧m.dead=false:=by
 unfold DM.up at h
 cases h1:m.down <;> cases h2:m.dead <;> simp_all
theorem zeR (h:RD w d p m) (s:Int) (A:Option Addr) (n c:Nat) (b:List Nat) (hb:By w A n c b) (ho:¬∃g o,A=some ⟨g,o,none⟩∧p g≠0) (hfew:m.waits.length≤1000000) :
 Calls Tryz.prog 50 #[aD d 0,.int .i64 s,.slice A n c] w fun e w'=>e=.returned (.int .i64 (m.write s b).1)∧ROut d p w (m.write s b).2 w':=by
 obtain ⟨⟨q,hq⟩,hlt⟩:=h
 have hbl:=hb.len
 obtain ⟨⟨_,_,_,d3,d4,d5,_⟩,_⟩:=hq.head.cells
 have HQ:=qj hq
 have HLT:=qj hlt
 have same:∀E:Int,m.write s b=(E,m)→Hid (m.write s b=(E,m)):=fun _ h=>qj h
 by_cases hu:m.up=false
 ·have HE:=same 5 (by unfold DM.write;rw [if_pos hu])
  rcases zhD hu with hd | ⟨hd,hdd⟩
  ·rw [hd] at d4
   clear hu hd hq hlt same
   go_enter Tryz.func50,Tryz.ntmps50
   go_wp2_with fail
   go_ret
   rw [HE.out]
   exact ⟨rfl,p,⟨⟨q,HQ.out⟩,HLT.out⟩,Mod.refl _ _,fun k hk=>.inl hk⟩
  ·rw [hd] at d4
   rw [hdd] at d5
   clear hu hd hdd hq hlt same
   go_enter Tryz.func50,Tryz.ntmps50
   go_wp2_with fail
   go_ret
   rw [HE.out]
   exact ⟨rfl,p,⟨⟨q,HQ.out⟩,HLT.out⟩,Mod.refl _ _,fun k hk=>.inl hk⟩
 have hu':m.up=true:=by simpa using hu
 obtain ⟨hd,hdd⟩:=zjJ hu'
 rw [hd] at d4
 rw [hdd] at d5
 have hh:=zel hq.head s
 by_cases hs:m.has s=false
 ·have HE:=same 2 (by unfold DM.write;rw [if_neg hu,if_pos (.inl hs)])
  rw [hs] at hh
  have HH:=qj hh
  clear hh hu hu' hd hdd hs hq hlt same
  go_enter Tryz.func50,Tryz.ntmps50
  go_wp2_with fail
  refine HH.out.mono ?_
  rintro e w1 ⟨rfl,rfl⟩
  go_wp2_with fail
  go_ret
  rw [HE.out]
  exact ⟨rfl,p,⟨⟨q,HQ.out⟩,HLT.out⟩,Mod.refl _ _,fun k hk=>.inl hk⟩
 have hs':m.has s=true:=by simpa using hs
 rw [hs'] at hh
 have HH:=qj hh
 by_cases hn:n=64
 ·subst hn
  obtain ⟨s0,s1⟩:=DM.has_iff.1 hs'
  obtain ⟨j,rfl⟩:=Int.eq_ofNat_of_zero_le s0
  have hj:j<m.size:=by omega
  have HSP:=qj (zgO hq)
  have HSB:Hid (Sect b):=qj ⟨hbl,hb.rd.lt⟩
  have hA:Off (fun i=>p i≠0) A:=fun a ha hp=>by
   obtain ⟨g,o,e,_,_⟩:=hb.rd.2 (by rw [hbl];omega)
   rw [e] at ha
   injection ha with ha
   subst ha
   exact ho ⟨g,o,e,hp⟩
  have HA:=qj hA
  have HB:=qj hb
  have HJ:=qj hj
  by_cases hp0:m.power=0
  ·have HE:Hid (m.write (j:Int) b=(5,zaF m)):=qj (by unfold DM.write zaF;rw [if_neg hu,if_neg (fun h=>h.elim (by rw [hs'];simp) (by rw [hbl];simp)),if_pos hp0,if_pos hp0])
   have HZ:Hid (decide (m.power≠0)=false):=qj (by simp [hp0])
   clear hh hu hu' hd hdd hs hs' hq hlt same hp0 hb ho hA
   go_enter Tryz.func50,Tryz.ntmps50
   go_wp2_with fail
   refine HH.out.mono ?_
   rintro e w1 ⟨rfl,rfl⟩
   go_wp2_with fail
   refine HSP.out.mono ?_
   rw [HZ.out]
   rintro e w1 ⟨rfl,hq1,hm1⟩
   have HQ1:=qj hq1
   have HM1:=qj hm1
   clear hq1 hm1
   go_wp2_with fail
   go_ret
   rw [HE.out]
   exact ⟨rfl,p,⟨⟨q,HQ1.out⟩,fun i hi=>Nat.lt_of_lt_of_le (HLT.out i hi) HM1.out.size⟩,HM1.out.mono fun i hi=>by rw [hi,HQ.out.pd];omega,fun k hk=>.inl hk⟩
  ·have HE:Hid (m.write (j:Int) b=(0,{ zaF m with waits:=m.waits++[(j,b)] })):=qj (by unfold DM.write zaF;rw [if_neg hu,if_neg (fun h=>h.elim (by rw [hs'];simp) (by rw [hbl];simp)),if_neg hp0,if_neg hp0,Int.toNat_natCast])
   have HZ:Hid (decide (m.power≠0)=true):=qj (by simp [hp0])
   have HSM:Hid ((zaF m).waits=m.waits∧(zaF m).size=m.size):=qj (by unfold zaF;rw [if_neg hp0];exact ⟨rfl,rfl⟩)
   clear hh hu hu' hd hdd hs hs' hq hlt same hp0 hb ho hA
   go_enter Tryz.func50,Tryz.ntmps50
   go_wp2_with fail
   refine HH.out.mono ?_
   rintro e w1 ⟨rfl,rfl⟩
   go_wp2_with fail
   refine HSP.out.mono ?_
   rw [HZ.out]
   rintro e w1 ⟨rfl,hq1,hm1⟩
   have HQ1:=qj (hq1.ext (Ext.refl w1).drew)
   have HM1:Hid (Mod (fun i=>i=d) w w1.drew):=qj hm1.drew
   have HB1:Hid (By w1.drew A 64 c b):=qj ((HB.out.mod hm1 fun a ha hp=>HA.out a ha (by show p a.block≠0;rw [hp,HQ.out.pd];omega)).ext (Ext.refl w1).drew)
   obtain ⟨⟨_,_,_,e3,_⟩,ef⟩:=HQ1.out.head.cells
   have ef3:=ef 3
   clear hq1 hm1 ef
   go_wp2_with fail
   go_region_law (first
    | (refine step_append_lies _ rfl _ _ 63 rfl 0 162 (Classical.choose (info_parts zdT)) (.agg #[.int .i64 0,.slice none 0 0]) 2 32 Tryz.underlying63 (Classical.choose_spec (info_parts zdT)).1 (Classical.choose_spec (info_parts zdT)).2.1 (Classical.choose_spec (info_parts zdT)).2.2.1 (Classical.choose_spec (info_parts zdT)).2.2.2 rfl (by decide) q.pv m.waits.length (zdN m.waits q.WB) rfl HPEN.out ⟨w2.heap.size,0,none⟩ 1 1 [.int .i64 j,.slice (some ⟨b1,0,none⟩) 64 c1] rfl rfl HNEWS.out HONE.out (by omega) (by unfold maxLen;omega) (by omega) (Nat.zero_le _) (w2.heap.size+1) (by simp) ?_;intro bk cap w4 hown hgrow hat hlt4;have HG4:=qj hgrow;have HO4:=qj hown;have HT4:=qj hat;have HL4:=qj hlt4;have c4:=zpw HQ2.out hgrow;have f4:=zpi HQ2.out hgrow;have l4:=zsJ HQ2.out hgrow;clear hown hgrow hat)
    | (go_simp;go_at_call 108;refine (zcy A b 64 c _ HB1.out (by omega)).mono ?_;rintro e w2 ⟨A1,c1,rfl,_,hx,ho2⟩;obtain ⟨b1,rfl,g1,g2,hy1⟩:=zey ho2;have HK1:=qj hx;have HY1:=qj hy1;have e3:=zpf hx e3;have HQ2:=qj ((HQ1.out.ext hx).ext ((Ext.refl w2).alloc (.cells #[.int .i64 j,.slice (some ⟨b1,0,none⟩) 64 c1] 162)));have HPEN:=qj (zuN HQ2.out HSM.out.1);obtain ⟨⟨_,_,_,e3a,_⟩,_⟩:=HQ2.out.head.cells;have HNEWS:=qj (zuX w2 (.int .i64 (j:Int)) (.slice (some ⟨b1,0,none⟩) 64 c1) 162);have HONE:=qj (one2 (j:Int) b1 c1);clear hx ho2 hy1))
   all_goals
    have hE2:Ext w2 (w2.alloc (.cells #[.int .i64 j,.slice (some ⟨b1,0,none⟩) 64 c1] 162)):=(Ext.refl w2).alloc _
    have h2:RDq (w2.alloc (.cells #[.int .i64 j,.slice (some ⟨b1,0,none⟩) 64 c1] 162)) d (part p b1 6) q (zaF m):=((HQ1.out.recast (p':=part p b1 6) (zef g1)).ext HK1.out).ext hE2
    have hy:Byt (w2.alloc (.cells #[.int .i64 j,.slice (some ⟨b1,0,none⟩) 64 c1] 162)) (b1,c1) b:=HY1.out.mod (F:=fun _=>False) (Mod.of_ext hE2) fun h=>h
    have hpend:=h2.pend (s:=j) (b1:=b1) (c1:=c1) (bk:=bk) (cap:=cap) (w4:=w4) hy (zbI _ _ _) (by rw [HSM.out.2];exact HJ.out) HSB.out (by rw [HSM.out.1];exact HO4.out) HG4.out (by rw [World.size_alloc];exact HT4.out) HL4.out
    rw [HSM.out.1] at hpend
    have hs12:=HK1.out.size
    have hs24:=HG4.out.size
    rw [World.size_alloc] at hs24
    have hs01:=HM1.out.size
    have HPEN2:=qj hpend
    have HN:Hid (w.heap.size≤b1∧b1<w4.heap.size):=qj ⟨by omega,by omega⟩
    have HNK:Hid (q.pv.ownBlock=some bk∨w.heap.size≤bk):=qj (HT4.out.imp id fun e=>by omega)
    have hM2:Mod (fun k=>p k≠0) w (w2.alloc (.cells #[.int .i64 j,.slice (some ⟨b1,0,none⟩) 64 c1] 162)):=(HM1.out.mono fun i hi=>by rw [hi,HQ.out.pd];omega).ext (HK1.out.trans hE2)
    have HM2:=qj hM2
    have HS4:Hid (w.heap.size≤w4.heap.size):=qj (by omega)
    clear hE2 h2 hy hpend hM2 hs12 hs24 hs01 e3 e3a ef3 c4 f4 l4
    go_wp2_with fail
    go_ret
    rw [HE.out]
    have hM3:Mod (fun k=>p k≠0) w (w4.setCell (aD d 3) (.slice (some ⟨bk,0,none⟩) (m.waits.length+1) cap)):=HM2.out.trans HPEN2.out.2 fun i hi=>(zbe hi).elim (fun e=>.inr (by rw [e];exact HN.out.1)) .inl
    have hs3:(w4.setCell (aD d 3) (.slice (some ⟨bk,0,none⟩) (m.waits.length+1) cap)).heap.size=w4.heap.size:=by simp [World.setCell]
    refine ⟨rfl,part (part p b1 6) bk 5,⟨⟨_,HPEN2.out.1⟩,fun k hk=>?_⟩,hM3,fun k hk=>?_⟩
    ·refine Nat.lt_of_lt_of_le (m:=w4.heap.size) ?_ (Nat.le_of_eq hs3.symm)
     rcases zbe hk with rfl | hk
     ·exact HL4.out
     ·rcases zbe hk with rfl | hk
      ·exact HN.out.2
      ·exact Nat.lt_of_lt_of_le (HLT.out k hk) HS4.out
    ·rcases zbe hk with rfl | hk
     ·rcases HNK.out with e | e
      ·exact .inl (by rw [HQ.out.pp _ e];omega)
      ·exact .inr e
     ·rcases zbe hk with rfl | hk
      ·exact .inr HN.out.1
      ·exact .inl hk
 ·have HE:=same 2 (by unfold DM.write;rw [if_neg hu,if_pos (.inr (by rw [hbl];exact hn))])
  have hne:((n:Int) != 64)=true:=by rw [bne_iff_ne];omega
  clear hh hu hu' hd hdd hs hs' hq hlt same hn
  go_enter Tryz.func50,Tryz.ntmps50
  go_wp2_with fail
  refine HH.out.mono ?_
  rintro e w1 ⟨rfl,rfl⟩
  go_wp2_with fail
  go_ret
  rw [HE.out]
  exact ⟨rfl,p,⟨⟨q,HQ.out⟩,HLT.out⟩,Mod.refl _ _,fun k hk=>.inl hk⟩
end
theorem zeo {w:World} {base e size n:Nat} {v:Value} {xs:List Value} (h:w.ownsRow base e size v n xs):∃A c,v=.slice A n c∧n≤c∧c≤9223372036854775807:=by
 rcases h.2 with ⟨rfl,rfl⟩ | ⟨g,cap,cur,rfl,_,_,h1,h2,_⟩
 ·exact ⟨none,0,rfl,Nat.le_refl _,by omega⟩
 ·exact ⟨_,_,rfl,h1,by unfold maxLen at h2;exact h2⟩
structure RGo (w wr:World) (d:Nat) (p0 p:Nat→Nat) (m:DM):Prop where
 rd:RD wr d p m
 mod:Mod (fun k=>p0 k≠0) w wr
 nz:∀k,p k≠0→p0 k≠0∨w.heap.size≤k
theorem RGo.step {w wr w2:World} {d:Nat} {p0 p:Nat→Nat} {m m':DM} (h:RGo w wr d p0 p m) (k:ROut d p wr m' w2):∃p',RGo w w2 d p0 p' m':=by
 obtain ⟨p',h1,h2,h3⟩:=k
 refine ⟨p',h1,h.mod.trans h2 fun i hi=>h.nz i hi,fun i hi=>?_⟩
 rcases h3 i hi with h4 | h4
 ·exact h.nz i h4
 ·exact .inr (Nat.le_trans h.mod.size h4)
theorem RDq.clear {w w':World} {d:Nat} {p:Nat→Nat} {q:Nm} {m m':DM} (h:RDq w d p q m) (k:Mod (fun i=>i=d) w w') (hd:RHead w' d q.gr q.cr q.gm q.cm q.gl q.cl (.slice none 0 0) m') (h1:m'.rest=m.rest) (h2:m'.meant=m.meant) (h3:m'.lost=m.lost) (h4:m'.waits=[]) (h5:m'.power=m.power):RDq w' d p { q with pv:=.slice none 0 0,WB:=[] } m':=by
 have hs:m'.size=m.size:=by unfold DM.size;rw [h1]
 have ne:∀i r,p i=r→r≠1→¬i=d:=fun i r hi hr e=>by rw [e,h.pd] at hi;omega
 have own:=fun {e s n:Nat} {v:Value} {xs:List Value} (ho:w.ownsRow 0 e s v n xs) (r:Nat) (hr:r≠1) (hv:∀i,v.ownBlock=some i→p i=r)=>zas ho k fun i hi=>ne i r (hv i hi) hr
 refine ⟨⟨by rw [h2,hs];exact h.ok.meant,by rw [h3,hs];exact h.ok.lost,by rw [h1];exact h.ok.rests,by rw [h2];exact h.ok.means,fun x hx=>(by rw [h4] at hx;cases hx),by rw [h5];exact h.ok.power⟩,hd,?_,?_,?_,?_,?_,by rw [h4];rfl,fun j x hx=>(by simp at hx),by rw [h4];exact World.ownsRow_nil _ _ _ _,h.pd,h.pr,h.pm,h.pl,fun i hi=>(by cases hi),by rw [h5];exact h.few⟩
 ·rw [hs];exact own h.rr 2 (by omega) fun i hi=>by injection hi with hi;subst hi;exact h.pr
 ·rw [hs];exact own h.rm 3 (by omega) fun i hi=>by injection hi with hi;subst hi;exact h.pm
 ·rw [hs,h3];exact own h.rl 4 (by omega) fun i hi=>by injection hi with hi;subst hi;exact h.pl
 ·intro i y hy
  rw [h1]
  exact ⟨(h.rb i y hy).1,(h.rb i y hy).2.mod k (ne _ _ (h.rb i y hy).1 (by omega))⟩
 ·intro i y hy
  rw [h2]
  exact ⟨(h.mb i y hy).1,(h.mb i y hy).2.mod k (ne _ _ (h.mb i y hy).1 (by omega))⟩
theorem zhG {w:World} {d:Nat} {p:Nat→Nat} {q:Nm} {m:DM} (h:RDq w d p q m) (hlt:∀k,p k≠0→k<w.heap.size) {y:Nat × Nat} {x:Nat × List Nat} (hp:p y.1=6) (hy:Byt w y x.2) (hx:x.1<m.size) (hs:Sect x.2) :
 Calls Tryz.prog 143 #[aD d 0,.agg #[.int .i64 x.1,.slice (some ⟨y.1,0,none⟩) 64 y.2]] w fun e w'=>(∃v,e=.returned v)∧ROut d p w (m.come x) w' :=
 zrc ⟨⟨q,h⟩,hlt⟩ x.1 hx (some ⟨y.1,0,none⟩) y.2 x.2 (hy.by hs.2) hs fun a ha hh=>by
  injection ha with ha
  subst ha
  have hp':p y.1=6:=hp
  rcases hh with hh | hh | hh <;> (have hh':p y.1=_:=hh;omega)
section
variable {w:World} {d:Nat} {p:Nat→Nat} {m:DM}
theorem zgX (h:RD w d p m) (hfew:m.waits.length≤1000000):Calls Tryz.prog 86 #[aD d 0] w fun e w'=>e=.returned m.flush.1∧ROut d p w m.flush.2 w':=by
 obtain ⟨⟨q,hq⟩,hlt⟩:=h
 obtain ⟨⟨_,_,_,d3,d4,d5,_⟩,_⟩:=hq.head.cells
 have HQ:=qj hq
 have HLT:=qj hlt
 by_cases hu:m.up=false
 ·have HE:Hid (m.flush=(5,m)):=qj (by unfold DM.flush;rw [if_pos hu])
  rcases zhD hu with hd | ⟨hd,hdd⟩
  ·rw [hd] at d4
   clear hu hd hq hlt
   go_enter Tryz.func86,Tryz.ntmps86
   go_wp2_with fail
   go_ret
   rw [HE.out]
   exact ⟨rfl,p,⟨⟨q,HQ.out⟩,HLT.out⟩,Mod.refl _ _,fun k hk=>.inl hk⟩
  ·rw [hd] at d4
   rw [hdd] at d5
   clear hu hd hdd hq hlt
   go_enter Tryz.func86,Tryz.ntmps86
   go_wp2_with fail
   go_ret
   rw [HE.out]
   exact ⟨rfl,p,⟨⟨q,HQ.out⟩,HLT.out⟩,Mod.refl _ _,fun k hk=>.inl hk⟩
 have hu':m.up=true:=by simpa using hu
 obtain ⟨hd,hdd⟩:=zjJ hu'
 rw [hd] at d4
 rw [hdd] at d5
 have HSP:=qj (zgO hq)
 by_cases hp0:m.power=0
 ·have HE:Hid (m.flush=(5,zaF m)):=qj (by unfold DM.flush zaF;rw [if_neg hu,if_pos hp0,if_pos hp0])
  have HZ:Hid (decide (m.power≠0)=false):=qj (by simp [hp0])
  clear hu hu' hd hdd hq hlt hp0
  go_enter Tryz.func86,Tryz.ntmps86
  go_wp2_with fail
  refine HSP.out.mono ?_
  rw [HZ.out]
  rintro e w1 ⟨rfl,hq1,hm1⟩
  have HQ1:=qj hq1
  have HM1:=qj hm1
  clear hq1 hm1
  go_wp2_with fail
  go_ret
  rw [HE.out]
  exact ⟨rfl,p,⟨⟨q,HQ1.out⟩,fun i hi=>Nat.lt_of_lt_of_le (HLT.out i hi) HM1.out.size⟩,HM1.out.mono fun i hi=>by rw [hi,HQ.out.pd];omega,fun k hk=>.inl hk⟩
 ·have HE:Hid (m.flush=(0,{ (zaF m).comes m.waits with waits:=[] })):=qj (by unfold DM.flush zaF;rw [if_neg hu,if_neg hp0,if_neg hp0])
  have HZ:Hid (decide (m.power≠0)=true):=qj (by simp [hp0])
  have hsm:(zaF m).waits=m.waits:=by unfold zaF;rw [if_neg hp0]
  have HSM:=qj hsm
  clear hu hu' hd hdd hq hlt hp0 hsm
  go_enter Tryz.func86,Tryz.ntmps86
  go_wp2_with fail
  refine HSP.out.mono ?_
  rw [HZ.out]
  rintro e w1 ⟨rfl,hq1,hm1⟩
  have HG1:Hid (RGo w w1 d p p (zaF m)):=qj ⟨⟨⟨q,hq1⟩,fun i hi=>Nat.lt_of_lt_of_le (HLT.out i hi) hm1.size⟩,hm1.mono fun i hi=>by rw [hi,HQ.out.pd];omega,fun k hk=>.inl hk⟩
  clear hq1 hm1 d3 d4 d5
  obtain ⟨N,hN⟩:∃N,m.waits.length=N:=⟨_,rfl⟩
  have HN:=qj hN
  rw [hN] at hfew
  clear hN
  go_wp2_with fail
  go_loopw [3] (fun i wr=>∃(k:Nat) (p':Nat→Nat),k≤N∧i=.int .i64 k∧Hid (RGo w wr d p p' ((zaF m).comes (m.waits.take k)))) (fun i _=>N-(intOf i).toNat)
  case atStart=>exact ⟨0,p,Nat.zero_le _,rfl,HG1⟩
  case round =>
   obtain ⟨k,p',hk,rfl,HG⟩:=hrel
   obtain ⟨⟨q',hq'⟩,hlt'⟩:=HG.out.rd
   have hcw:=DM.comes_waits (m.waits.take k) (zaF m)
   have hwl:((zaF m).comes (m.waits.take k)).waits.length=N:=by rw [hcw.1,HSM.out,HN.out]
   obtain ⟨⟨_,_,_,e3,_⟩,ef⟩:=hq'.head.cells
   have ef3:=ef 3
   have hpl:∃A c,q'.pv=.slice A N c:=by
    obtain ⟨A,c,e,_,_⟩:=zeo hq'.pen
    exact ⟨A,c,by rw [e,hwl]⟩
   obtain ⟨pA,pc,hpv⟩:=hpl
   by_cases hlt2:k<N
   ·obtain ⟨g,c,x,y,e1,hx,hy,c0,c1,h6,hby,hxs,hsec⟩:=hq'.waitAt (k:=k) (by omega)
    rw [e1,hwl] at e3
    have hx':m.waits[k]?=some x:=by rw [hcw.1,HSM.out] at hx;exact hx
    have HC:=qj (zhG hq' hlt' h6 hby hxs hsec)
    have HX:=qj (show (zaF m).comes (m.waits.take (k+1))=((zaF m).comes (m.waits.take k)).come x by rw [zer hx',zdH])
    unfold slV at c1
    have i0:(0:Int)≤(k:Int):=by omega
    have i1:(k:Int)<(N:Int):=by omega
    clear hq' hlt' hcw hwl ef ef3 hpv e1 hx hy h6 hby hxs hsec hx'
    go_wp2_with fail
    refine HC.out.mono ?_
    rintro e w2 ⟨⟨v,rfl⟩,hr⟩
    obtain ⟨p2,hg2⟩:=HG.out.step hr
    have HG2:=qj hg2
    clear hr hg2
    go_wp2_with fail
    go_roundw
    case rel=>exact ⟨k+1,p2,by omega,by go_num,by rw [HX.out];exact HG2⟩
    case measure=>simp [intOf];omega
   ·obtain rfl:k=N:=by omega
    have HQ':=qj hq'
    have HL':=qj hlt'
    have hld:=hq'.lts.1
    rw [hpv] at e3
    have HT:Hid (m.waits.take k=m.waits):=qj (List.take_of_length_le (by rw [HN.out];omega))
    clear hq' hlt' hcw hwl ef hpv
    go_wp2_with fail
    go_ret
    rw [HE.out]
    rw [HT.out] at HQ' HG
    have kk:=zaQ wr d 3 (.slice none 0 0)
    refine ⟨rfl,p',⟨⟨_,HQ'.out.clear kk ⟨zae 3 HQ'.out.head.head _ rfl,HQ'.out.head.n1⟩ rfl rfl rfl rfl rfl⟩,fun i hi=>by have:=HL'.out i hi;simpa [World.setCell] using this⟩,HG.out.mod.trans kk (fun i hi=>?_),HG.out.nz⟩
    rw [hi]
    exact .inl (by rw [HQ.out.pd];omega)
end
def lastI (l:List (Nat × List Nat)) (s:Nat):Nat→Int
 | 0=>-1
 | k+1=>if (l.getD k (0,[])).1=s∧k<l.length then (k:Int) else lastI l s k
theorem zqR (l:List (Nat × List Nat)) (s:Nat):∀k,k≤l.length→(lastI l s k=-1∧zbh (l.take k) s=none)∨∃i x,i<k∧lastI l s k=(i:Int)∧l[i]?=some x∧zbh (l.take k) s=some x.2:=by
 intro k
 induction k with
 | zero=>intro _;exact .inl ⟨rfl,by simp [zbh]⟩
 | succ k ih =>
  intro hk
  obtain ⟨x,hx⟩:∃x,l[k]?=some x:=⟨_,List.getElem?_eq_getElem (by omega)⟩
  have hgd:l.getD k (0,[])=x:=by rw [List.getD_eq_getElem?_getD,hx];rfl
  have hw:zbh (l.take (k+1)) s=if x.1=s then some x.2 else zbh (l.take k) s:=by
   rw [zer hx,zlH]
  unfold lastI
  rw [hgd,hw]
  by_cases h:x.1=s
  ·rw [if_pos ⟨h,by omega⟩,if_pos h]
   exact .inr ⟨k,x,by omega,rfl,hx,rfl⟩
  ·rw [if_neg (fun hh=>h hh.1),if_neg h]
   rcases ih (by omega) with h1 | ⟨i,y,h1,h2,h3,h4⟩
   ·exact .inl h1
   ·exact .inr ⟨i,y,by omega,h2,h3,h4⟩
section
variable {w:World} {d:Nat} {p:Nat→Nat} {m:DM}
theorem znJ (h:RD w d p m) (s:Int) (hsw:s≤9223372036854775807) (hfew:m.waits.length≤1000000):Calls Tryz.prog 134 #[aD d 0,.int .i64 s] w fun e w'=>∃A n c,e=.returned (.tuple #[.slice A n c,.int .i64 (m.read s).2])∧By w' A n c (m.read s).1∧Ext w w':=by
 obtain ⟨⟨q,hq⟩,hlt⟩:=h
 obtain ⟨⟨d0,_,d2,d3,d4,d5,_⟩,_⟩:=hq.head.cells
 by_cases hu:m.up=false
 ·have HE:Hid (m.read s=([],5)):=qj (by unfold DM.read;rw [if_pos hu])
  rcases zhD hu with hd | ⟨hd,hdd⟩
  ·rw [hd] at d4
   clear hu hd hq hlt
   go_enter Tryz.func134,Tryz.ntmps134
   go_wp2_with fail
   refine bodyPost_ret (v:=.tuple Zk.q) (by simp [results,Tryz.results134,go_sem]) rfl ?_
   exact ⟨none,0,0,by rw [HE.out],by rw [HE.out];exact By.nil_ _,Ext.refl _⟩
  ·rw [hd] at d4
   rw [hdd] at d5
   clear hu hd hdd hq hlt
   go_enter Tryz.func134,Tryz.ntmps134
   go_wp2_with fail
   refine bodyPost_ret (v:=.tuple Zk.q) (by simp [results,Tryz.results134,go_sem]) rfl ?_
   exact ⟨none,0,0,by rw [HE.out],by rw [HE.out];exact By.nil_ _,Ext.refl _⟩
 have hu':m.up=true:=by simpa using hu
 obtain ⟨hd,hdd⟩:=zjJ hu'
 rw [hd] at d4
 rw [hdd] at d5
 have hh:=zel hq.head s
 by_cases hs:m.has s=false
 ·have HE:Hid (m.read s=([],2)):=qj (by unfold DM.read;rw [if_neg hu,if_pos hs])
  rw [hs] at hh
  have HH:=qj hh
  clear hh hu hu' hd hdd hs hq hlt
  go_enter Tryz.func134,Tryz.ntmps134
  go_wp2_with fail
  refine HH.out.mono ?_
  rintro e w1 ⟨rfl,rfl⟩
  go_wp2_with fail
  refine bodyPost_ret (v:=.tuple Zk.o) (by simp [results,Tryz.results134,go_sem]) rfl ?_
  exact ⟨none,0,0,by rw [HE.out],by rw [HE.out];exact By.nil_ _,Ext.refl _⟩
 have hs':m.has s=true:=by simpa using hs
 rw [hs'] at hh
 have HH:=qj hh
 obtain ⟨s0,s1⟩:=DM.has_iff.1 hs'
 obtain ⟨j,rfl⟩:=Int.eq_ofNat_of_zero_le s0
 have hj:j<m.size:=by omega
 obtain ⟨hlc,_,_⟩:=hq.lostAt hj
 obtain ⟨x0,hx0,hxc,_,_⟩:=hq.restAt hj
 have hsec0:Sect (m.rest.getD j []):=by
  have hil:j<m.rest.length:=hj
  rw [List.getD_eq_getElem?_getD,List.getElem?_eq_getElem hil,Option.getD_some]
  exact hq.ok.rests _ (List.getElem_mem hil)
 have HB0:=qj ((hq.rb j x0 hx0).2.by hsec0.2)
 have hsz:=hq.head.n1.2
 unfold slV at hxc
 have HE:Hid (m.read (j:Int)=match zbh m.waits j with | some b=>(b,0) | none=>if m.lost.getD j false=true then ([],50) else (m.rest.getD j [],0)):=qj (by unfold DM.read;rw [if_neg hu,if_neg hs,Int.toNat_natCast];rfl)
 have HQ:=qj hq
 obtain ⟨N,hN⟩:∃N,m.waits.length=N:=⟨_,rfl⟩
 have HN:=qj hN
 rw [hN] at hfew
 have hpl:∃A c,q.pv=.slice A N c:=by
  obtain ⟨A,c,e,_,_⟩:=zeo hq.pen
  exact ⟨A,c,by rw [e,hN]⟩
 obtain ⟨pA,pc,hpv⟩:=hpl
 have HPV:=qj hpv
 rw [hpv] at d3
 have HLI:=qj (zqR m.waits j)
 clear hh hu hu' hd hdd hs hs' hq hlt hx0 hsec0 hN hpv
 go_enter Tryz.func134,Tryz.ntmps134
 go_wp2_with fail
 refine HH.out.mono ?_
 rintro e w1 ⟨rfl,rfl⟩
 go_wp2_with fail
 go_loopw [6,7] (fun f i wr=>∃k:Nat,k≤N∧i=.int .i64 k∧f=.int .i64 (lastI m.waits j k)∧wr=w) (fun _ i _=>N-(intOf i).toNat)
 case atStart=>exact ⟨0,Nat.zero_le _,rfl,rfl,rfl⟩
 case round =>
  obtain ⟨k,hk,rfl,rfl,rfl⟩:=hrel
  by_cases hlt2:k<N
  ·obtain ⟨g,c,x,y,e1,hx,hy,c0,c1,_⟩:=HQ.out.waitAt (k:=k) (by rw [HN.out];exact hlt2)
   have e2:=HPV.out.symm.trans e1
   injection e2 with e2 _ _
   subst e2
   have hgd:m.waits.getD k (0,[])=x:=by rw [List.getD_eq_getElem?_getD,hx];rfl
   have i0:(0:Int)≤(k:Int):=by omega
   have i1:(k:Int)<(N:Int):=by omega
   by_cases hxs:x.1=j
   ·have HL:Hid (lastI m.waits j (k+1)=(k:Int)):=qj (by unfold lastI;rw [hgd,if_pos ⟨hxs,by rw [HN.out];exact hlt2⟩])
    have heq:((x.1:Int) == (j:Int))=true:=by rw [beq_iff_eq,hxs]
    clear e1 hx hy hgd hxs c1
    go_wp2_with fail
    go_roundw
    case rel=>exact ⟨k+1,by omega,by go_num,by rw [HL.out],by first | rfl | trivial⟩
    case measure=>simp [intOf];omega
   ·have HL:Hid (lastI m.waits j (k+1)=lastI m.waits j k):=qj (by show (if _ then _ else _)=_;rw [hgd,if_neg (fun h=>hxs h.1)])
    have heq:((x.1:Int) == (j:Int))=false:=by
     rw [beq_eq_false_iff_ne]
     intro hc
     exact hxs (Int.ofNat.inj hc)
    clear e1 hx hy hgd hxs c1
    generalize lastI m.waits j k=li at *
    go_wp2_with fail
    go_roundw
    case rel=>exact ⟨k+1,by omega,by go_num,by rw [HL.out],by first | rfl | trivial⟩
    case measure=>simp [intOf];omega
  ·obtain rfl:k=N:=by omega
   rcases HLI.out k (by rw [HN.out];omega) with ⟨h1,h2⟩ | ⟨i,x,hi,h1,hx,h2⟩
   ·rw [h1]
    have hlw:zbh m.waits j=none:=by rw [List.take_of_length_le (by rw [HN.out];omega)] at h2;exact h2
    by_cases hlo:m.lost.getD j false=true
    ·have HE2:Hid (m.read (j:Int)=([],50)):=qj (by rw [HE.out,hlw];simp only;rw [if_pos hlo])
     rw [hlo] at hlc
     clear h1 h2 hlw hlo HE
     go_wp2_with fail
     refine bodyPost_ret (v:=.tuple #[.slice none 0 0,.int .i64 50]) (by simp [results,Tryz.results134,go_sem]) rfl ?_
     exact ⟨none,0,0,by rw [HE2.out],by rw [HE2.out];exact By.nil_ _,Ext.refl _⟩
    ·have HE2:Hid (m.read (j:Int)=(m.rest.getD j [],0)):=qj (by rw [HE.out,hlw];simp only;rw [if_neg hlo])
     rw [show m.lost.getD j false=false by simpa using hlo] at hlc
     clear h1 h2 hlw hlo HE
     go_wp2_with fail
     refine (zcy (some ⟨x0.1,0,none⟩) (m.rest.getD j []) 64 x0.2 _ HB0.out (by omega)).mono ?_
     rintro e w2 ⟨A1,c1,rfl,hb,hx,_⟩
     have HB1:=qj hb
     have HX1:=qj hx
     clear hb hx
     go_wp2_with fail
     refine bodyPost_ret (v:=.tuple #[.slice A1 64 c1,.int .i64 0]) (by simp [results,Tryz.results134,go_sem]) rfl ?_
     exact ⟨_,_,_,by rw [HE2.out],by rw [HE2.out];exact HB1.out,HX1.out⟩
   ·rw [h1]
    have hlw:zbh m.waits j=some x.2:=by rw [List.take_of_length_le (by rw [HN.out];omega)] at h2;exact h2
    obtain ⟨g,c,x',y,e1,hx',hy,c0,c1,_,hby,_,hsec⟩:=HQ.out.waitAt (k:=i) (by rw [HN.out];exact hi)
    obtain rfl:x'=x:=by rw [hx] at hx';injection hx' with h;exact h.symm
    have e2:=HPV.out.symm.trans e1
    injection e2 with e2 _ _
    subst e2
    unfold slV at c1
    have HB2:=qj (hby.by hsec.2)
    have HE2:Hid (m.read (j:Int)=(x'.2,0)):=qj (by rw [HE.out,hlw])
    have i0:(0:Int)≤(i:Int):=by omega
    have i1:(i:Int)<(k:Int):=by omega
    clear h1 h2 hlw HE e1 hx hx' hy hby hsec
    go_wp2_with fail
    refine (zcy (some ⟨y.1,0,none⟩) x'.2 64 y.2 _ HB2.out (by omega)).mono ?_
    rintro e w2 ⟨A1,c2,rfl,hb,hx,_⟩
    have HB1:=qj hb
    have HX1:=qj hx
    clear hb hx
    go_wp2_with fail
    refine bodyPost_ret (v:=.tuple #[.slice A1 64 c2,.int .i64 0]) (by simp [results,Tryz.results134,go_sem]) rfl ?_
    exact ⟨_,_,_,by rw [HE2.out],by rw [HE2.out];exact HB1.out,HX1.out⟩
end
end Go.Proofs.YtdbpdhlecgoclaaGreatDoor
