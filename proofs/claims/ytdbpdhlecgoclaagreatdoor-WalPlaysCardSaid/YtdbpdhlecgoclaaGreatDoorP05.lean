/-
  The contracts of a sector's flipped,and the disk's Flip.
-/
import Derived.Test.YtdbpdhlecgoclaaGreatDoorP00
import Derived.Test.YtdbpdhlecgoclaaGreatDoorP01
import Derived.Test.YtdbpdhlecgoclaaGreatDoorP02
import Derived.Test.YtdbpdhlecgoclaaGreatDoorP03
import Derived.Test.YtdbpdhlecgoclaaGreatDoorP04
import Derived.Tactics
import Derived.Test.YtdbpdhlecgoclaaGreatDoorProg
import Derived.WalkSpells
import Derived.OwnWalk
import Derived.Laws.AppendOwnNone
import Derived.Lib.Hide
namespace Go.Proofs.YtdbpdhlecgoclaaGreatDoor
set_option maxRecDepth 100000
set_option maxHeartbeats 6400000
open Go Go.RowKit
theorem zmP (l:List Nat) (p:Nat) (hp:p<512) (hl:Sect l) (w:World) :
 (cL 144 #[.agg (vb l).toArray,.int .i64 p] w (.agg (vb (zaI l p)).toArray):Prop):=by
 obtain ⟨q,hqe⟩:∃q,p/8=q:=⟨_,rfl⟩
 obtain ⟨r,hre⟩:∃r,p%8=r:=⟨_,rfl⟩
 obtain ⟨y,hy⟩:∃y,l[q]?=some y:=⟨_,List.getElem?_eq_getElem (by rw [hl.1];omega)⟩
 have hy2:y<256:=hl.2 y (List.mem_of_getElem? hy)
 have hm8:r<8:=by omega
 have hx8:=zna y r hy2 hm8
 have HS:Hid ((vb l).toArray.setIfInBounds q (.int .u8 ((y ^^^ 2 ^ r:Nat):Int))=(vb (zaI l p)).toArray):=qj (by
  rw [ziM (by rw [hqe];exact hy),←zsd,hqe,hre]
  simp)
 have HLN:Hid ((zaI l p).length=64):=qj (by rw [zcA];exact hl.1)
 have hq:IntKind.i64.wrap ((p:Int)/8)=(q:Int):=by rw [IntWalk.i64_in _ (by omega)];omega
 have hrm:(p:Int).tmod 8=(r:Int):=by rw [Int.tmod_eq_emod_of_nonneg (by omega)];omega
 have hb0:(0:Int)≤(q:Int):=by omega
 have hb1:(q:Int)<64:=by omega
 have hm0:(0:Int)≤(r:Int):=by omega
 have hzv:=zut
 have hr0:(w.alloc (.cells (vb l).toArray 156)).heap[w.heap.size]?=some (.cells (vb l).toArray 156 (0,0)):=heap_alloc_new w _
 have hr:((w.alloc (.cells (vb l).toArray 156)).alloc (.cells zCon 156)).drew.heap[w.heap.size]?=some (.cells (vb l).toArray 156 (0,0)):=(Below.heap_alloc _ _ _ (by simp)).trans hr0
 have hz0:((w.alloc (.cells (vb l).toArray 156)).alloc (.cells zCon 156)).heap[w.heap.size+1]?=some (.cells zCon 156 (0,0)):=by
  have:=heap_alloc_new (w.alloc (.cells (vb l).toArray 156)) (.cells zCon 156)
  rwa [World.size_alloc] at this
 have hE:=(((Ext.refl w).alloc (.cells (vb l).toArray 156)).alloc (.cells zCon 156)).drew
 have hc:((w.alloc (.cells (vb l).toArray 156)).alloc (.cells zCon 156)).drew.cell? (aD w.heap.size q)=some (.int .u8 (y:Int)):=by
  rw [cell_of_row _ _ _ _ _ _ hr,List.getElem?_toArray,zdz,hy]
  rfl
 have hf:((w.alloc (.cells (vb l).toArray 156)).alloc (.cells zCon 156)).drew.frozen? (aD w.heap.size q)=false:=frozen_of_row _ _ _ _ _ hr
 have hz:((w.alloc (.cells (vb l).toArray 156)).alloc (.cells zCon 156)).drew.heap[w.heap.size+1]?=some (.cells zCon 156 (0,0)):=hz0
 have HR:=qj hr
 have HZ:=qj hz
 have HE:=qj hE
 clear hr hz hE hr0 hz0 hy hqe hre
 go_enter Tryz.func144,Tryz.ntmps144
 go_wp2_with fail
 refine zeP 9 (by kernel_rfl) (by kernel_rfl) ?_
 simp only [List.take_succ_cons,List.take_zero,List.drop_succ_cons,List.drop_zero]
 generalize ((w.alloc (.cells (vb l).toArray 156)).alloc (.cells zCon 156)).drew=w2 at *
 still_step
 still_step
 still_step
 still_step
 still_step
 still_step
 still_step
 still_step
 still_step
 refine wpStill_nil ?_
 have hs:=zae q HR.out (.int .u8 ((y ^^^ 2 ^ r:Nat):Int)) HS.out
 have hz2:=zbQ (k:=q) (x:=.int .u8 ((y ^^^ 2 ^ r:Nat):Int)) (show w.heap.size+1≠w.heap.size by omega) HZ.out
 have he2:=Below.setCell HE.out (p:=⟨w.heap.size,q,none⟩) (Nat.le_refl _) (.int .u8 ((y ^^^ 2 ^ r:Nat):Int))
 have HS2:=qj hs
 have HZ2:=qj hz2
 have HE2:=qj he2
 have HRN:Hid ((w2.setCell (aD w.heap.size q) (.int .u8 ((y ^^^ 2 ^ r:Nat):Int))).rangeAt w.heap.size 0 (vb (zaI l p))):=qj (by
  have:=World.rangeAt_of_block hs 0 64
  rwa [show ((vb (zaI l p)).toArray.extract 0 (0+64)).toList=vb (zaI l p) by simp [List.take_of_length_le,zag,HLN.out]] at this)
 have HTH:Hid ((w2.setCell (aD w.heap.size q) (.int .u8 ((y ^^^ 2 ^ r:Nat):Int))).there (w.heap.size+1) 0 (vb (zaI l p)).toArray.size):=qj (zei hz2 0 _ (by rw [List.size_toArray,zag,HLN.out,zfO];omega))
 have HSZ:Hid ((Tryz.prog.info? 156).map (·.size)=some (vb (zaI l p)).toArray.size):=qj (by rw [zeX,List.size_toArray,zag,HLN.out])
 clear hs hz2 he2
 go_wp2_with (first
  | (rw [hx8];refine zmZ rfl _ rfl w.heap.size 0 rfl (vb (zaI l p)) HRN.out (by rw [zag];exact HLN.out) ?_)
  | (refine wpList_store_mid rfl 156 _ _ rfl (w.heap.size+1) 0 (vb (zaI l p)).toArray rfl rfl HTH.out HSZ.out (all_oneCell_toArray (zde _)) ?_))
 obtain ⟨cs',h1,h2,h3,_⟩:=zbv (vb (zaI l p)) 0 HZ2.out (by rw [zag,HLN.out,zfO];omega)
 have hcs:cs'=(vb (zaI l p)).toArray:=by
  apply Array.ext_getElem?
  intro i
  by_cases hi:i<64
  ·obtain ⟨v,hv⟩:∃v,(vb (zaI l p))[i]?=some v:=⟨_,List.getElem?_eq_getElem (by rw [zag,HLN.out];exact hi)⟩
   have e2:(vb (zaI l p)).toArray[i]?=some v:=by rw [List.getElem?_toArray];exact hv
   have e3:=h3 i v hv
   rw [Nat.zero_add] at e3
   rw [e2,e3]
  ·rw [Array.getElem?_eq_none (by rw [h2,zfO];omega),Array.getElem?_eq_none (by rw [List.size_toArray,zag,HLN.out];omega)]
 subst hcs
 refine bodyPost_ret (results_cell_row rfl _ _ (w.heap.size+1) _ _ _ _ rfl h1 Tryz.underlying156 rfl HSZ.out) rfl ?_
 exact ⟨rfl,(Mod.of_ext (F:=fun i=>i=w.heap.size+1) HE2.out).then (zcz _ _ _ _) |>.to_ext fun i hi=>by omega⟩
theorem zta (m:DM) (s b:Int):m.flip s b=if m.has s=false∨b<0 then (2,m) else (0,{ m with rest:=m.rest.set s.toNat (zaI (m.rest.getD s.toNat []) (b.toNat%512)) }):=rfl
theorem zsf {w:World} {d g:Nat} {pv:Value} {m:DM} (h:PD w d g pv m) (s b:Int) (hb63:b≤9223372036854775807) :
 Calls Tryz.prog 89 #[aD d 0,s,.int .i64 b] w fun e w'=>e=.returned (.int .i64 (m.flip s b).1)∧PD w' d g pv (m.flip s b).2∧Mod (fun i=>i=g) w w':=by
 have hx:=(Ext.refl w).alloc (.cells #[s] 3)
 have h1:=h.ext hx
 have hz:=ZsAt.one w s 3
 have hk:=zfz h1 _ 1 1 [s] hz
 rw [zeF] at hk
 have HX:=qj hx
 have H1:=qj h1
 have HP:=qj (zta m s b)
 have HO:=qj (DM.flip_ok h.ok s b)
 clear h h1 hx hz
 by_cases hh:m.has s=false
 ·have HP1:Hid (m.flip s b=(2,m)):=qj (by rw [HP.out,if_pos (.inl hh)])
  rw [if_pos hh] at hk
  have HK:=qj hk
  clear hk hh HP
  go_enter Tryz.func89,Tryz.ntmps89
  go_wp2_with fail
  refine HK.out.mono ?_
  rintro e w1 ⟨rfl,rfl⟩
  go_wp2_with fail
  go_ret
  exact ⟨by rw [HP1.out];rfl,by rw [HP1.out];exact H1.out,Mod.of_ext HX.out⟩
 ·rw [if_neg hh] at hk
  have HK:=qj hk
  by_cases hb:b<0
  ·have HP1:Hid (m.flip s b=(2,m)):=qj (by rw [HP.out,if_pos (.inr hb)])
   clear hk hh HP
   go_enter Tryz.func89,Tryz.ntmps89
   go_wp2_with fail
   refine HK.out.mono ?_
   rintro e w1 ⟨rfl,rfl⟩
   go_wp2_with fail
   go_ret
   exact ⟨by rw [HP1.out];rfl,by rw [HP1.out];exact H1.out,Mod.of_ext HX.out⟩
  ·obtain ⟨b,rfl⟩:=Int.eq_ofNat_of_zero_le (show 0≤b by omega)
   have HP1:Hid (m.flip s (b:Int)=(0,{ m with rest:=m.rest.set s.toNat (zaI (m.rest.getD s.toNat []) (b%512)) })):=qj (by rw [HP.out,if_neg (by intro hc;exact hc.elim hh hb)];rw [Int.toNat_natCast])
   have hhas:m.has s=true:=by simpa using hh
   obtain ⟨hs0,hs1⟩:=DM.has_iff.1 hhas
   obtain ⟨k,rfl⟩:=Int.eq_ofNat_of_zero_le hs0
   have hks:k<m.size:=by omega
   rw [Int.toNat_natCast] at HP1
   obtain ⟨q,hq⟩:∃q,b%512=q:=⟨_,rfl⟩
   have hq512:q<512:=by omega
   rw [hq] at HP1
   have hrm:(b:Int).tmod 512=(q:Int):=by rw [Int.tmod_eq_emod_of_nonneg (by omega)];omega
   clear hk hh hhas HP hq
   have hfl:=zmP (m.rest.getD k []) q hq512 (H1.out.ok.rest_at hks)
   have HFL:=qj hfl
   clear hfl
   go_enter Tryz.func89,Tryz.ntmps89
   go_wp2_with fail
   refine HK.out.mono ?_
   rintro e w1 ⟨rfl,rfl⟩
   obtain ⟨⟨c0,c1,c2,c3,c4⟩,f0,f1,f2,f3,f4⟩:=H1.out.cells
   have hr:=H1.out.med.range hks
   have hm:(w.alloc (.cells #[.int .i64 k] 3)).rangeAt g (k * 129) (vb (m.rest.getD k [])):=fun j v hv=>by
    have hj:j<(vb (m.rest.getD k [])).length:=(List.getElem?_eq_some_iff.1 hv).1
    refine hr j v ?_
    rw [zjH,List.getElem?_append_left hj]
    exact hv
   have HR:=qj hm
   have HSR:=qj (H1.out.ok.rest_at hks)
   generalize w.alloc (.cells #[.int .i64 k] 3)=w1 at *
   clear hr hm f0 f1 f2 f3 f4 c0 c1 c2 c4
   go_wp2_with (first
    | (refine zmZ rfl _ rfl g (k * 129) rfl _ HR.out (by rw [zag];exact HSR.out.1) ?_))
   refine (HFL.out _).mono ?_
   rintro e w2 ⟨rfl,hx2⟩
   have HX2:=qj (HX.out.trans hx2)
   have H2:=qj (H1.out.ext hx2)
   obtain ⟨cur,hg,hsz,hcur⟩:=H2.out.med
   have hle:(k+1) * 129≤m.size * 129:=Nat.mul_le_mul_right _ hks
   have hln:(zaI (m.rest.getD k []) q).length=64:=by rw [zcA];exact HSR.out.1
   have HLN:=qj hln
   have HTH:Hid (w2.there g (k * 129) (vb (zaI (m.rest.getD k []) q)).toArray.size):=qj (zei hg _ _ (by rw [List.size_toArray,zag,hln,hsz];omega))
   have HSZ:Hid ((Tryz.prog.info? 156).map (·.size)=some (vb (zaI (m.rest.getD k []) q)).toArray.size):=qj (by rw [zeX,List.size_toArray,zag,hln])
   clear hx2 hg hsz hcur hle hln
   go_wp2_with (refine wpList_store_mid rfl 156 _ _ rfl g (k * 129) (vb (zaI (m.rest.getD k []) q)).toArray rfl rfl HTH.out HSZ.out (all_oneCell_toArray (zde _)) ?_)
   go_ret
   have hm2:Mod (fun i=>i=g) w2 (w2.setCells g (k * 129) (vb (zaI (m.rest.getD k []) q))):=zcz _ _ _ _
   have hml:=(H2.out.ok.meant_at hks).1
   have hrl:=HSR.out.1
   refine ⟨by rw [HP1.out];rfl,?_,(Mod.of_ext HX2.out).then hm2⟩
   have hO:=HO.out
   rw [HP1.out] at hO ⊢
   have hsec:∀i,({ m with rest:=m.rest.set k (zaI (m.rest.getD k []) q) }:DM).sec i=if i=k then secC (zaI (m.rest.getD k []) q) (m.meant.getD k []) (m.lost.getD k false) else m.sec i:=fun i=>by
    unfold DM.sec
    by_cases e:k=i
    ·subst e
     rw [if_pos rfl]
     simp only
     rw [zbR (show k<m.rest.length from hks),if_pos rfl]
    ·rw [if_neg fun h=>e h.symm]
     simp only
     rw [zaZ e]
   have hsz':({ m with rest:=m.rest.set k (zaI (m.rest.getD k []) q) }:DM).size=m.size:=by simp [DM.size]
   refine H2.out.sec_turned hm2 _ hO hsz' ?_ rfl rfl rfl rfl
   refine H2.out.med.set (m':={ m with rest:=m.rest.set k (zaI (m.rest.getD k []) q) }) hks 0 (vb (zaI (m.rest.getD k []) q)) hsz' (by rw [zag,HLN.out];omega) (fun i hi hne=>by rw [hsec,if_neg hne]) (fun i hi=>by
    rw [hsec]
    split
    ·exact zcG HLN.out hml
    ·exact H2.out.ok.sec_len hi) (fun j v hv=>?_)
   rw [hsec,if_pos rfl] at hv
   rcases zfu HLN.out hml j v hv with ⟨a1,a2⟩ | ⟨a1,a2,a3⟩ | ⟨rfl,rfl⟩
   ·rw [if_pos ⟨by omega,by rw [zag,HLN.out];omega⟩]
    exact a2
   ·rw [if_neg (by rw [zag,HLN.out];omega)]
    exact zdc hrl hml j v (.inr (.inl ⟨a1,a2,a3⟩))
   ·rw [if_neg (by rw [zag,HLN.out];omega)]
    exact zdc hrl hml 128 _ (.inr (.inr ⟨rfl,rfl⟩))
theorem Vs.mod {w w':World} {B:Nat} {A:Option Addr} {n c:Nat} {vs:List Value} {F:Nat→Prop} (h:Vs w B A n c vs) (k:Mod F w w') (hB:B≤w.heap.size) (ho:0<n→Off F A):Vs w' B A n c vs :=
 ⟨h.len,h.cap,h.most,fun hn=>by
  obtain ⟨g,o,e,hg,hc⟩:=h.rd hn
  refine ⟨g,o,e,hg,fun j v hv=>?_⟩
  rw [←hc j v hv]
  exact World.cell?_of_block (a:=⟨g,o+j,none⟩) (k.block g (by omega) (ho hn _ e)),h.nil_⟩
theorem zgd {l:List (Nat × List Nat)} {j:Nat} {x:Nat × List Nat} (h:l[j]?=some x) (k:List Bool):kept (l.take (j+1)) k=if k[j]?=some true then kept (l.take j) k++[x] else kept (l.take j) k:=by
 have hj:j<l.length:=(List.getElem?_eq_some_iff.1 h).1
 rw [zer h,zgo,List.length_take,Nat.min_eq_left (by omega)]
theorem zrv {w:World} {d g:Nat} {pv:Value} {m:DM} (h:PD w d g pv m) (kA:Option Addr) (kn kc:Nat) (kl:List Bool) (hkeep:Vs w w.heap.size kA kn kc (kl.map .bool)) (hoff:0<kn→Off (Fdg d g) kA) :
 Calls Tryz.prog 87 #[aD d 0,.slice kA kn kc] w fun e w'=>∃pv',e=.returned (.int .i64 (m.crash kl).1)∧PD w' d g pv' (m.crash kl).2∧(pv'=pv∨pv'=.slice none 0 0)∧Mod (Fdg d g) w w':=by
 have H:=qj h
 have HP:Hid (m.crash kl=if m.down=true then (5,m) else (0,{ m.comes (kept m.waits kl) with waits:=[],down:=true })):=qj rfl
 have HO:=qj (DM.crash_ok h.ok kl)
 have HKP:=qj hkeep
 have HOFF:=qj hoff
 have hkm:kn≤9223372036854775807:=Nat.le_trans hkeep.cap hkeep.most
 obtain ⟨⟨c0,c1,c2,c3,c4⟩,f0,f1,f2,f3,f4⟩:=h.cells
 clear hkeep hoff f0 f1 f2 f3 f4 c2 c3
 by_cases hd:m.down=true
 ·have HP1:Hid (m.crash kl=(5,m)):=qj (by rw [HP.out,if_pos hd])
  rw [zge.2 hd] at c1
  clear hd HP h
  go_enter Tryz.func87,Tryz.ntmps87
  go_wp2_with fail
  refine (zbS d _ c0).mono ?_
  rintro e w1 ⟨rfl,rfl⟩
  go_wp2_with fail
  go_ret
  exact ⟨pv,by rw [HP1.out];rfl,by rw [HP1.out];exact H.out,.inl rfl,Mod.refl _ _⟩
 ·have HP1:Hid (m.crash kl=(0,{ m.comes (kept m.waits kl) with waits:=[],down:=true })):=qj (by rw [HP.out,if_neg hd])
  have hst:(stOf m == 2)=false:=by
   have:¬stOf m=2:=fun e=>hd (zge.1 e)
   simpa using this
  obtain ⟨A,c,hpv,hcap,hmost⟩:=h.pv_form
  obtain ⟨k,hk⟩:∃k,m.waits.length=k:=⟨_,rfl⟩
  have HK:=qj hk
  rw [hk] at hpv hcap
  subst hpv
  clear hd HP h hk
  generalize hs:stOf m=st at *
  clear hs
  go_enter Tryz.func87,Tryz.ntmps87
  go_wp2_with fail
  refine (zbS d _ c0).mono ?_
  rintro e w1 ⟨rfl,rfl⟩
  go_wp2_with fail
  clear c0 c1 c4
  go_loopw [22] (fun i wr=>∃j:Nat,j≤k∧i=.int .i64 j∧PD wr d g (.slice A k c) (m.comes (kept (m.waits.take j) kl))∧Mod (Fdg d g) w wr) (fun i _=>k-(intOf i).toNat)
  case atStart=>exact ⟨0,Nat.zero_le _,rfl,by rw [show kept (m.waits.take 0) kl=[] by simp [kept]];exact H.out,Mod.refl _ _⟩
  case round =>
   obtain ⟨j,hj,rfl,hpd,hmod⟩:=hrel
   have HPD:=qj hpd
   have HMD:=qj hmod
   clear hpd hmod
   by_cases hlt:j<k
   ·obtain ⟨x,hx⟩:∃x,m.waits[j]?=some x:=⟨_,List.getElem?_eq_getElem (by rw [HK.out];exact hlt)⟩
    have hcw:=DM.comes_waits (kept (m.waits.take j) kl) m
    have hx2:(m.comes (kept (m.waits.take j) kl)).waits[j]?=some x:=by rw [hcw.1];exact hx
    obtain ⟨b,c',hpv,hrange⟩:=HPD.out.pen_at hx2
    injection hpv with hA hB hC
    subst hA
    clear hB hC
    have hxm:=HPD.out.ok.waits x (List.mem_of_getElem? hx2)
    have HX:=qj hx
    have HXM:=qj hxm
    have HRG:=qj hrange
    have HL65:Hid ((wriC x).length=65):=qj (zcF hxm.2.1)
    have hzv:=zjC
    have HRN:Hid ((wr.alloc (.cells (wriC x).toArray 158)).rangeAt wr.heap.size 0 (wriC x)):=qj (zcE wr _ (wriC x) [] (wriC x) [] (by simp) 0 rfl)
    have hE:=(Ext.refl wr).alloc (.cells (wriC x).toArray 158)
    have HEX:=qj hE
    have HKS:=qj (zgd hx kl)
    clear hcw hx hx2 hrange hxm hE
    have HVS:Hid (Vs (wr.alloc (.cells (wriC x).toArray 158)) w.heap.size kA kn kc (kl.map .bool)):=qj ((HKP.out.mod HMD.out (Nat.le_refl _) HOFF.out).mod (F:=fun _=>False) (Mod.of_ext HEX.out) HMD.out.size fun _ _ _ h=>h)
    by_cases hkj:j<kn
    ·obtain ⟨kg,ko,rfl,_,hc⟩:=HVS.out.rd (by omega)
     obtain ⟨bb,hbb⟩:∃bb,kl[j]?=some bb:=⟨_,List.getElem?_eq_getElem (by have:=HVS.out.len;rw [List.length_map] at this;omega)⟩
     have hcell:=hc j (.bool bb) (by rw [List.getElem?_map,hbb];rfl)
     have HBB:=qj hbb
     clear hc hbb
     cases bb with
     | true =>
      have HKS1:Hid (kept (m.waits.take (j+1)) kl=kept (m.waits.take j) kl++[x]):=qj (by rw [HKS.out,if_pos HBB.out])
      clear HKS
      go_wp2_with (first
       | (refine zfE rfl _ rfl b (j * 65) rfl (wriC x) HRG.out HL65.out ?_)
       | (refine zgU rfl _ _ rfl (wriC x) rfl rfl HL65.out (zcP x) ?_)
       | (refine zfE rfl _ rfl wr.heap.size 0 rfl (wriC x) HRN.out HL65.out ?_))
      refine (zkf (HPD.out.ext HEX.out) x HXM.out.1 HXM.out.2).mono ?_
      rintro e w3 ⟨⟨v,rfl⟩,hp3,hm3⟩
      have HP3:=qj hp3
      have HM3:=qj ((HMD.out.ext HEX.out).then (Fdg.of_g hm3))
      clear hp3 hm3 hcell
      go_wp2_with fail
      go_roundw
      case rel=>exact ⟨j+1,by omega,by go_num,by rw [HKS1.out,zdH];exact HP3.out,HM3.out⟩
      case measure=>simp [intOf];omega
     | false =>
      have HKS1:Hid (kept (m.waits.take (j+1)) kl=kept (m.waits.take j) kl):=qj (by rw [HKS.out,if_neg (by rw [HBB.out];simp)])
      clear HKS
      go_wp2_with (first
       | (refine zfE rfl _ rfl b (j * 65) rfl (wriC x) HRG.out HL65.out ?_)
       | (refine zgU rfl _ _ rfl (wriC x) rfl rfl HL65.out (zcP x) ?_))
      go_roundw
      case rel=>exact ⟨j+1,by omega,by go_num,by rw [HKS1.out];exact HPD.out.ext HEX.out,HMD.out.ext HEX.out⟩
      case measure=>simp [intOf];omega
    ·have HKS1:Hid (kept (m.waits.take (j+1)) kl=kept (m.waits.take j) kl):=qj (by
      rw [HKS.out,if_neg]
      rw [List.getElem?_eq_none (by have:=HVS.out.len;rw [List.length_map] at this;omega)]
      simp)
     clear HKS
     go_wp2_with (first
      | (refine zfE rfl _ rfl b (j * 65) rfl (wriC x) HRG.out HL65.out ?_)
      | (refine zgU rfl _ _ rfl (wriC x) rfl rfl HL65.out (zcP x) ?_))
     go_roundw
     case rel=>exact ⟨j+1,by omega,by go_num,by rw [HKS1.out];exact HPD.out.ext HEX.out,HMD.out.ext HEX.out⟩
     case measure=>simp [intOf];omega
   ·have HTK:Hid (m.waits.take j=m.waits):=qj (List.take_of_length_le (by rw [HK.out];omega))
    obtain ⟨⟨c0,c1,c2,c3,c4⟩,f0,f1,f2,f3,f4⟩:=HPD.out.cells
    clear c0 c2 c3 f0 f2 f3
    go_wp2_with fail
    go_ret
    have hpd:=HPD.out
    rw [HTK.out] at hpd
    have hm4:Mod (fun i=>i=d) wr ((wr.setCell (aD d 4) (.slice none 0 0)).setCell (aD d 1) (.int .u8 2)):=((Mod.refl _ _).own_cell _ _).own_cell _ _
    refine ⟨.slice none 0 0,by rw [HP1.out];rfl,?_,.inr rfl,HMD.out.then (Fdg.of_d hm4)⟩
    refine hpd.cleared hm4 _ ?_ HO.out (by rw [HP1.out]) (by rw [HP1.out]) (by rw [HP1.out]) (by rw [HP1.out]) (by rw [HP1.out])
    rw [HP1.out]
    exact zae 1 (zae 4 hpd.head _ rfl) _ rfl
theorem zmF (n:Nat) (g:Nat):∀w,(Instr.build 79 #[(2,.int .i64 (-1)),(3,.slice (some ⟨g,0,none⟩) n n)]).run Tryz.prog w=.ok (.agg #[.pointer none,.int .u8 0,.int .i64 (-1),.slice (some ⟨g,0,none⟩) n n,.slice none 0 0]) w:=fun w=>run_build w _ _ _ (by kernel_rfl)
theorem zmq:(Tryz.prog.info? 201).map (fun i=>(i.zero,i.size,i.bytes))=some (some (.agg zMed),129,129):=by kernel_rfl
def mrow (n:Nat):Obj:=.cells (madeCells zMed (n * 129)) 201
theorem zuj (n:Nat) (hn:n≤1024) (w:World):(Instr.makeSlice 76 (.int .i64 (n:Int)) (.int .i64 (n:Int))).run Tryz.prog w=.ok (.slice (some ⟨w.heap.size,0,none⟩) n n) (w.alloc (mrow n)):=by
 obtain ⟨i0,hi,hz0,hz1,hz2⟩:=info_parts zmq
 rw [run_make w 76 201 i0 (.agg zMed) Tryz.underlying76 hi hz0 .i64 .i64 (n:Int) (n:Int) (by omega) (Int.le_refl _) (by rw [hz2];omega) (by omega),Int.toNat_natCast]
 rw [hz1]
 rfl
theorem zsB (n s:Nat) (hs:s<n):(DM.new n).sec s=secC z64 z64 false:=by
 have h:∀{α:Type} (x d:α),(List.replicate n x).getD s d=x:=fun x d=>by
  rw [List.getD_eq_getElem?_getD,List.getElem?_replicate,if_pos hs];rfl
 unfold DM.sec DM.new
 simp only
 rw [h,h]
theorem zfB (n:Nat):(DM.new n).size=n:=by simp [DM.new,DM.size]
theorem zcn.new_ {w:World} {g n:Nat} (h:w.heap[g]?=some (mrow n)):zcn w g (DM.new n):=by
 refine ⟨_,h,by rw [size_madeCells,zfB],fun s hs j v hv=>?_⟩
 rw [zfB] at hs
 rw [zsB n s hs] at hv
 have hl:(secC z64 z64 false).length=129:=by simp [secC,zag,z64]
 have hj:j<129:=by rw [←hl];exact (List.getElem?_eq_some_iff.1 hv).1
 have hle:(s+1) * 129≤n * 129:=Nat.mul_le_mul_right _ hs
 unfold madeCells
 rw [Array.getElem?_map,Array.getElem?_range,if_pos (by omega)]
 show some (zMed[(s * 129+j)%zMed.size]!)=some v
 rw [zgh,show (s * 129+j)%129=j by omega]
 have:zMed[j]?=some v:=by unfold zMed;rw [List.getElem?_toArray];exact hv
 rw [getElem!_def,this]
theorem zum {w:World} {d g n:Nat} (hn:1≤n∧n≤1024) (hg:w.heap[g]?=some (mrow n)) (hd:w.heap[d]?=some (.cells #[aD d 0,.int .u8 0,.int .i64 (-1),.slice (some ⟨g,0,none⟩) n n,.slice none 0 0] 79 (0,0))) (hne:d≠g):PD w d g (.slice none 0 0) (DM.new n) :=
 ⟨DM.new_ok n,by rw [zfB];exact hn,by show (-1:Int)≤_;omega,by rw [zfB];exact hd,zcn.new_ hg,World.ownsRow_nil _ _ _ _,hne,fun k hk=>(by cases hk)⟩
theorem zsp (n:Nat) (w:World) (h1:1≤n) (h2:n≤1024) :
 Calls Tryz.prog 5 #[.int .i64 n] w fun e w'=>∃d g,e=.returned (.tuple #[aD d 0,.int .i64 0])∧PD w' d g (.slice none 0 0) (DM.new n)∧w.heap.size≤d∧w.heap.size≤g∧Ext w w':=by
 have hmk:=zuj n h2
 have hbd:=zmF n w.heap.size
 go_enter Tryz.func5,Tryz.ntmps5
 go_wp2_with fail
 go_ret2
 have hg1:(w.alloc (mrow n)).heap[w.heap.size]?=some (mrow n):=heap_alloc_last w _
 have hsz:(w.alloc (mrow n)).heap.size=w.heap.size+1:=by simp
 refine ⟨w.heap.size+1,w.heap.size,rfl,zum ⟨h1,h2⟩ ?_ ?_ (by omega),by omega,Nat.le_refl _,((Ext.refl w).alloc _).alloc _⟩
 ·exact (Below.heap_alloc _ _ _ (by omega)).trans hg1
 ·have:=heap_alloc_last (w.alloc (mrow n)) (.cells #[aD (w.heap.size+1) 0,.int .u8 0,.int .i64 (-1),.slice (some ⟨w.heap.size,0,none⟩) n n,.slice none 0 0] 79)
  rwa [hsz] at this
def grow (F:Nat→Prop) (w w':World) (k:Nat):Prop:=F k∨(w.heap.size≤k∧k<w'.heap.size)
def Outc (d:Nat) (F:Nat→Prop) (w:World) (E:Int) (m':DM) (e:Ending) (w':World):Prop:=e=.returned (.int .i64 E)∧zao w' d (grow F w w') m'∧Mod F w w'
theorem zao.step {w w':World} {d g:Nat} {pv pv':Value} {F:Nat→Prop} {m':DM} (h2:∀k,Fp d g pv k→F k) (h3:∀k,F k→k<w.heap.size) (hp:PD w' d g pv' m') (hm:Mod (Fp d g pv) w w')
 (hb:pv'.ownBlock=pv.ownBlock∨pv'.ownBlock=none∨∃i,pv'.ownBlock=some i∧w.heap.size≤i):zao w' d (grow F w w') m'∧Mod F w w':=by
 refine ⟨⟨g,pv',hp,fun k hk=>?_,fun k hk=>?_⟩,hm.mono h2⟩
 ·rcases hk with rfl | rfl | hk
  ·exact .inl (h2 _ (.inl rfl))
  ·exact .inl (h2 _ (.inr (.inl rfl)))
  ·rcases hb with e | e | ⟨i,e,hi⟩
   ·exact .inl (h2 _ (.inr (.inr (by rw [←e];exact hk))))
   ·rw [e] at hk;cases hk
   ·rw [e] at hk
    injection hk with hk
    subst hk
    exact .inr ⟨hi,(hp.pen.lt i e).2⟩
 ·rcases hk with hk | hk
  ·exact Nat.lt_of_lt_of_le (h3 k hk) hm.size
  ·exact hk.2
section
variable {w:World} {d:Nat} {F:Nat→Prop} {m:DM}
theorem zkU (h:zao w d F m):Calls Tryz.prog 75 #[aD d 0] w (Outc d F w m.flush.1 m.flush.2):=by
 obtain ⟨g,pv,hp,h2,h3⟩:=h
 refine (zpP hp).mono fun e w' ⟨pv',h1,h4,h5,h6⟩=>?_
 have:=zao.step h2 h3 h4 (h6.mono fun i hi=>hi.elim .inl fun h=>.inr (.inl h)) (by
  rcases h5 with rfl | rfl
  ·exact .inl rfl
  ·exact .inr (.inl rfl))
 exact ⟨h1,this.1,this.2⟩
theorem zrW (h:zao w d F m) (kA:Option Addr) (kn kc:Nat) (kl:List Bool) (hk:Vs w w.heap.size kA kn kc (kl.map .bool)) (ho:0<kn→Off F kA) :
 Calls Tryz.prog 87 #[aD d 0,.slice kA kn kc] w (Outc d F w (m.crash kl).1 (m.crash kl).2):=by
 obtain ⟨g,pv,hp,h2,h3⟩:=h
 refine (zrv hp kA kn kc kl hk fun hn p hA hi=>ho hn p hA (h2 _ (hi.elim .inl fun h=>.inr (.inl h)))).mono fun e w' ⟨pv',h1,h4,h5,h6⟩=>?_
 have:=zao.step h2 h3 h4 (h6.mono fun i hi=>hi.elim .inl fun h=>.inr (.inl h)) (by
  rcases h5 with rfl | rfl
  ·exact .inl rfl
  ·exact .inr (.inl rfl))
 exact ⟨h1,this.1,this.2⟩
theorem zsc (h:zao w d F m):Calls Tryz.prog 88 #[aD d 0] w (Outc d F w m.start.1 m.start.2):=by
 obtain ⟨g,pv,hp,h2,h3⟩:=h
 refine (zpJ hp).mono fun e w' ⟨h1,h4,h6⟩=>?_
 have:=zao.step h2 h3 h4 (h6.mono fun i hi=>.inl hi) (.inl rfl)
 exact ⟨h1,this.1,this.2⟩
theorem zrK (h:zao w d F m) (n:Int) (hn:n≤9223372036854775807):Calls Tryz.prog 92 #[aD d 0,.int .i64 n] w (Outc d F w (m.setPower n).1 (m.setPower n).2):=by
 obtain ⟨g,pv,hp,h2,h3⟩:=h
 refine (zpZ hp n hn).mono fun e w' ⟨h1,h4,h6⟩=>?_
 have:=zao.step h2 h3 h4 (h6.mono fun i hi=>.inl hi) (.inl rfl)
 exact ⟨h1,this.1,this.2⟩
theorem zsT (h:zao w d F m) (s:Int):Calls Tryz.prog 90 #[aD d 0,.int .i64 s] w (Outc d F w (m.lose s).1 (m.lose s).2):=by
 obtain ⟨g,pv,hp,h2,h3⟩:=h
 refine (ztc hp s).mono fun e w' ⟨h1,h4,h6⟩=>?_
 have:=zao.step h2 h3 h4 (h6.mono fun i hi=>.inr (.inl hi)) (.inl rfl)
 exact ⟨h1,this.1,this.2⟩
theorem ztd (h:zao w d F m) (s b:Int) (hb:b≤9223372036854775807):Calls Tryz.prog 89 #[aD d 0,s,b] w (Outc d F w (m.flip s b).1 (m.flip s b).2):=by
 obtain ⟨g,pv,hp,h2,h3⟩:=h
 refine (zsf hp s b hb).mono fun e w' ⟨h1,h4,h6⟩=>?_
 have:=zao.step h2 h3 h4 (h6.mono fun i hi=>.inr (.inl hi)) (.inl rfl)
 exact ⟨h1,this.1,this.2⟩
theorem zqc (h:zao w d F m) (a b:Int):Calls Tryz.prog 91 #[aD d 0,a,b] w (Outc d F w (m.stray a b).1 (m.stray a b).2):=by
 obtain ⟨g,pv,hp,h2,h3⟩:=h
 refine (zpQ hp a b).mono fun e w' ⟨h1,h4,h6⟩=>?_
 have:=zao.step h2 h3 h4 (h6.mono fun i hi=>.inr (.inl hi)) (.inl rfl)
 exact ⟨h1,this.1,this.2⟩
theorem zhS (h:zao w d F m) (s:Int) (A:Option Addr) (n c:Nat) (b:List Nat) (hb:By w A n c b) (ho:Off F A) (hfew:m.waits.length≤1000000) :
 Calls Tryz.prog 47 #[aD d 0,.int .i64 s,.slice A n c] w (Outc d F w (m.write s b).1 (m.write s b).2):=by
 obtain ⟨g,pv,hp,h2,h3⟩:=h
 refine (zrF hp s A n c b hb (fun p hA hi=>ho p hA (h2 _ (.inl hi))) hfew).mono fun e w' ⟨pv',h1,h4,h5,h6⟩=>?_
 have:=zao.step h2 h3 h4 h6 (h5.imp id .inr)
 exact ⟨h1,this.1,this.2⟩
theorem zte (h:zao w d F m) (s:Int) (hfew:m.waits.length≤1000000):Calls Tryz.prog 152 #[aD d 0,.int .i64 s] w fun e w'=>∃A n,e=.returned (.tuple #[.slice A n n,.int .i64 (m.read s).2])∧New w.heap.size w' A n (m.read s).1∧Ext w w':=by
 obtain ⟨g,pv,hp,h2,h3⟩:=h
 exact zsA hp s hfew
theorem znD (h:zao w d F m):(cQ 22 #[aD d 0] w (.int .i64 (m.size:Nat)):Prop):=by
 obtain ⟨g,pv,hp,h2,h3⟩:=h
 exact zth hp
theorem zpN (h:zao w d F m):(cQ 16 #[aD d 0] w (.int .i64 (m.waits.length:Nat)):Prop):=by
 obtain ⟨g,pv,hp,h2,h3⟩:=h
 exact zqK hp
theorem zqN (h:zao w d F m):(cQ 25 #[aD d 0] w (.bool m.up):Prop):=by
 obtain ⟨g,pv,hp,h2,h3⟩:=h
 exact zuQ hp
end
theorem ztg (n:Nat) (w:World) (h1:1≤n) (h2:n≤1024) :
 Calls Tryz.prog 5 #[.int .i64 n] w fun e w'=>∃d,e=.returned (.tuple #[aD d 0,.int .i64 0])∧zao w' d (fun k=>w.heap.size≤k∧k<w'.heap.size) (DM.new n)∧Ext w w':=by
 refine (zsp n w h1 h2).mono fun e w' ⟨d,g,he,hp,hd,hg,hx⟩=>⟨d,he,⟨g,.slice none 0 0,hp,?_,fun k hk=>hk.2⟩,hx⟩
 intro k hk
 rcases hk with rfl | rfl | hk
 ·exact ⟨hd,hp.lt⟩
 ·exact ⟨hg,hp.glt⟩
 ·cases hk
theorem zpb (m:DM) (kind:Nat) (sec num:Int) (bytes:List Nat) (keep:List Bool):(m.act kind sec num bytes keep).2.waits.length≤m.waits.length+1:=by
 unfold DM.act
 split
 ·unfold DM.flush;split
  ·simp
  ·split <;> simp
 ·unfold DM.crash;split <;> simp
 ·unfold DM.start;split <;> simp
 ·unfold DM.flip;split <;> simp
 ·unfold DM.lose;split <;> simp
 ·unfold DM.stray;split <;> simp
 ·unfold DM.setPower;split
  ·simp
  ·split <;> simp
 ·unfold DM.write;split
  ·simp
  ·split
   ·simp
   ·split <;> simp
section
open Go
def wOk (x:Int):Bool:=x == 1 || x == 2 || x == 4 || x == 6
def bnd (x:Int):Int:=if x=1 then 256 else if x=2 then 65536 else if x=4 then 4294967296 else if x=6 then 281474976710656 else 0
def fitsB (x n:Int):Bool:=decide (0≤n) && decide (n<bnd x)
def digs:Nat→Nat→List Nat
 | 0,_=>[]
 | k+1,n=>n%256 :: digs k (n/256)
theorem zaB (k n:Nat):(digs k n).length=k:=by
 induction k generalizing n with
 | zero=>rfl
 | succ k ih=>simp [digs,ih]
theorem zaV (k n:Nat):∀b∈digs k n,b<256:=by
 induction k generalizing n with
 | zero=>intro b hb;simp [digs] at hb
 | succ k ih =>
  intro b hb
  simp only [digs,List.mem_cons] at hb
  rcases hb with rfl | hb
  ·omega
  ·exact ih _ b hb
theorem ziX (k n:Nat):digs (k+1) n=digs k n++[n/256 ^ k%256]:=by
 induction k generalizing n with
 | zero=>simp [digs]
 | succ k ih =>
  rw [digs,ih,digs,Nat.div_div_eq_div_mul,Nat.pow_succ,Nat.mul_comm 256]
  rfl
def num:List Nat→Nat
 | []=>0
 | b :: r=>b+256 * num r
theorem zmX (l:List Nat) (h:∀b∈l,b<256):num l<256 ^ l.length:=by
 induction l with
 | nil=>simp [num]
 | cons b r ih =>
  have h1:=h b (by simp)
  have h2:=ih (fun c hc=>h c (by simp [hc]))
  simp only [num,List.length_cons,Nat.pow_succ]
  omega
theorem zpL (l:List Nat) (h:∀b∈l,b<256):digs l.length (num l)=l:=by
 induction l with
 | nil=>rfl
 | cons b r ih =>
  have h1:=h b (by simp)
  have h2:=ih (fun c hc=>h c (by simp [hc]))
  simp only [List.length_cons,digs,num]
  rw [show (b+256 * num r)%256=b by omega,show (b+256 * num r)/256=num r by omega,h2]
theorem zqC (l:List Nat) (b:Nat):num (l++[b])=num l+256 ^ l.length * b:=by
 induction l with
 | nil=>simp [num]
 | cons a r ih =>
  simp only [List.cons_append,num,ih,List.length_cons,Nat.pow_succ]
  have e:256 * (num r+256 ^ r.length * b)=256 * num r+256 ^ r.length * 256 * b:=by
   rw [Nat.mul_add,←Nat.mul_assoc,Nat.mul_comm 256 (256 ^ r.length)]
  omega
theorem zbW {x:Int} (h:wOk x=true):x=1∨x=2∨x=4∨x=6:=by
 simp [wOk] at h;omega
theorem zho {x:Int} (h:wOk x=true):bnd x=256 ^ x.toNat:=by
 rcases zbW h with rfl | rfl | rfl | rfl <;> rfl
theorem zeU {x:Int} (h:wOk x=false):bnd x=0:=by
 simp [wOk] at h
 simp [bnd,h]
theorem zbs {x n:Int}:fitsB x n=true↔wOk x=true∧0≤n∧n.toNat<256 ^ x.toNat:=by
 by_cases hw:wOk x=true
 ·have e:=zho hw
  simp only [fitsB,Bool.and_eq_true,decide_eq_true_eq,hw,true_and,e]
  constructor
  ·rintro ⟨h0,h1⟩
   refine ⟨h0,?_⟩
   have:((n.toNat:Nat):Int)<((256 ^ x.toNat:Nat):Int):=by rw [Int.toNat_of_nonneg h0,Int.natCast_pow];exact h1
   omega
  ·rintro ⟨h0,h1⟩
   refine ⟨h0,?_⟩
   have:((n.toNat:Nat):Int)<((256 ^ x.toNat:Nat):Int):=by omega
   rw [Int.toNat_of_nonneg h0,Int.natCast_pow] at this
   exact this
 ·have e:=zeU (by simpa using hw)
  simp only [fitsB,Bool.and_eq_true,decide_eq_true_eq,hw,e]
  constructor
  ·rintro ⟨h0,h1⟩;omega
  ·rintro ⟨h0,_⟩;simp at h0
end
section
open Go
def plc (r:Int):Nat:=if r=1 then 2 else if r=2 then 2 else if r=3 then 24 else if r=4 then 48 else if r=5 then 16 else 0
def wid (r:Int):Nat:=if r=1 then 1 else if r=2 then 1 else if r=3 then 1 else if r=4 then 2 else if r=5 then 2 else 0
def beg (r:Int):Nat:=if r≤1 then 0 else if r=2 then 2 else if r=3 then 4 else if r=4 then 28 else if r=5 then 124 else 156
theorem zgz {r:Int} (h:r<1∨5<r):plc r=0:=by unfold plc;repeat (rw [if_neg (by omega)])
theorem zjW {r:Int} (h:r<1∨5<r):wid r=0:=by unfold wid;repeat (rw [if_neg (by omega)])
theorem zeZ (r:Int):plc r≤48:=by unfold plc;(repeat' split) <;> omega
theorem zgg (r:Int):wid r≤2:=by unfold wid;(repeat' split) <;> omega
theorem zjB (r:Int):beg r≤156:=by unfold beg;(repeat' split) <;> omega
theorem ztx (r:Int):plc r * wid r≤96:=by
 have h1:=zeZ r;have h2:=zgg r
 calc plc r * wid r≤48 * 2:=Nat.mul_le_mul h1 h2
  _=96:=rfl
theorem zcv {r:Int} (h:1≤r∧r≤5):r=1∨r=2∨r=3∨r=4∨r=5:=by omega
theorem ztm {r:Int} (h:1≤r∧r≤5):2≤plc r:=by rcases zcv h with rfl | rfl | rfl | rfl | rfl <;> decide
theorem zgJ {r:Int} (h:0<plc r):1≤r∧r≤5:=by
 by_cases h1:r<1∨5<r
 ·rw [zgz h1] at h;omega
 ·omega
theorem zhC (k:Nat) (h:k≤5):beg ((k:Int)+1)=beg k+plc k * wid k:=by
 have hk:k=0∨k=1∨k=2∨k=3∨k=4∨k=5:=by omega
 rcases hk with rfl | rfl | rfl | rfl | rfl | rfl <;> decide
def zai (r p:Int):Int:=if 0≤p∧p<plc r then beg r+p * wid r else -1
theorem zfb {r p:Int} (h:0≤p∧p<plc r):zai r p=beg r+p * wid r:=by unfold zai;rw [if_pos h]
theorem zeL {r p:Int} (h:¬(0≤p∧p<plc r)):zai r p=-1:=by unfold zai;rw [if_neg h]
def mayB (a b c d e:Int):Bool:=decide (0≤a∧a≤6∧1≤b∧b≤5∧0≤c∧c<plc b∧0≤d∧d≤1099511627776∧1≤e∧e≤1099511627776)
theorem zds {a b c d e:Int}:mayB a b c d e=true↔(0≤a∧a≤6∧1≤b∧b≤5∧0≤c∧c<plc b∧0≤d∧d≤1099511627776∧1≤e∧e≤1099511627776):=by unfold mayB;exact decide_eq_true_iff
def nrR (b:Int):Int:=max 1 (min b 5)
def nrA (a:Int):Int:=max 0 (min a 6)
def nrC (b c:Int):Int:=max 0 (min c ((plc (nrR b):Int)-1))
def nrD (d:Int):Int:=max 0 (min d 1099511627776)
def nrE (e:Int):Int:=max 1 (min e 1099511627776)
theorem zpK (b:Int):1≤nrR b∧nrR b≤5:=by unfold nrR;omega
theorem zpy (a b c d e:Int):(a=nrA a∧b=nrR b∧c=nrC b c∧d=nrD d∧e=nrE e)↔mayB a b c d e=true:=by
 rw [zds]
 have h:=ztm (zpK b)
 unfold nrA nrC nrD nrE
 constructor
 ·rintro ⟨h1,h2,h3,h4,h5⟩
  rw [←h2] at h h3
  have:=zpK b
  omega
 ·rintro ⟨h1,h2,h3,h4,h5,h6,h7,h8,h9,h10⟩
  have hr:nrR b=b:=by unfold nrR;omega
  rw [hr]
  omega
def fld (a b c d e:Nat):Nat→Nat
 | 0=>a
 | 1=>b
 | 2=>c
 | 3=>d
 | _=>e
def wth:Nat→Nat
 | 0=>1
 | 1=>1
 | 2=>1
 | _=>6
def pre (f:Nat→Nat):Nat→List Nat
 | 0=>[]
 | k+1=>pre f k++digs (wth k) (f k)
theorem zlQ (k:Nat):wth k≤6:=by
 match k with
 | 0 | 1 | 2=>decide
 | _+3=>exact Nat.le_refl _
theorem zmu (f:Nat→Nat) (k:Nat):(pre f k).length≤6 * k:=by
 induction k with
 | zero=>simp [pre]
 | succ k ih =>
  have:=zlQ k
  simp only [pre,List.length_append,zaB]
  omega
def tagBytes (a b c d e:Nat):List Nat:=pre (fld a b c d e) 5
theorem zaS (a b c d e:Nat):(tagBytes a b c d e).length=15:=by simp [tagBytes,pre,zaB,wth]
theorem zgu (a b c d e:Nat):∀x∈tagBytes a b c d e,x<256:=by
 intro x hx
 simp only [tagBytes,pre,List.mem_append,List.not_mem_nil,false_or] at hx
 rcases hx with (((h | h) | h) | h) | h <;> exact zaV _ _ _ h
theorem zia {a b c d e:Nat} (h:mayB a b c d e=true) (k:Nat):fitsB (wth k) (fld a b c d e k)=true:=by
 rw [zds] at h
 have hp:=zeZ (b:Int)
 refine zbs.2 ?_
 match k with
 | 0=>exact ⟨rfl,by omega,by show a<256;omega⟩
 | 1=>exact ⟨rfl,by omega,by show b<256;omega⟩
 | 2=>exact ⟨rfl,by omega,by show c<256;omega⟩
 | 3=>exact ⟨rfl,by omega,by show d<281474976710656;omega⟩
 | _+4=>exact ⟨rfl,by omega,by show e<281474976710656;omega⟩
theorem zng {a b c d e:Int} (h:mayB a b c d e=true):∃a' b' c' d' e':Nat,a=a'∧b=b'∧c=c'∧d=d'∧e=e':=by
 rw [zds] at h
 obtain ⟨a',rfl⟩:=Int.eq_ofNat_of_zero_le h.1
 obtain ⟨b',rfl⟩:=Int.eq_ofNat_of_zero_le (show 0≤b by omega)
 obtain ⟨c',rfl⟩:=Int.eq_ofNat_of_zero_le (show 0≤c by omega)
 obtain ⟨d',rfl⟩:=Int.eq_ofNat_of_zero_le (show 0≤d by omega)
 obtain ⟨e',rfl⟩:=Int.eq_ofNat_of_zero_le (show 0≤e by omega)
 exact ⟨a',b',c',d',e',rfl,rfl,rfl,rfl,rfl⟩
def pos:Nat→Nat
 | 0=>0
 | 1=>1
 | 2=>2
 | 3=>3
 | 4=>9
 | _=>15
def pfld (l:List Nat) (k:Nat):Nat:=num ((l.drop (pos k)).take (wth k))
theorem zdW {k:Nat} (h:k<5):pos (k+1)=pos k+wth k:=by
 have hj':k=0∨k=1∨k=2∨k=3∨k=4:=by omega
 rcases hj' with rfl | rfl | rfl | rfl | rfl <;> rfl
theorem zqz (k:Nat):pos k≤15:=by unfold pos;split <;> omega
theorem zni (k:Nat):wOk (wth k)=true:=by
 match k with
 | 0 | 1 | 2=>rfl
 | _+3=>rfl
def PV (l:List Nat):Bool:=decide (l.length=15) && mayB (pfld l 0) (pfld l 1) (pfld l 2) (pfld l 3) (pfld l 4)
def pf (l:List Nat) (k:Nat):Nat:=if PV l=true then pfld l k else 0
def pe (l:List Nat):Int:=if PV l=true then 0 else 30
theorem zaX {l:List Nat} (h:PV l=true) (k:Nat):pf l k=pfld l k:=by unfold pf;rw [if_pos h]
theorem zfD {l:List Nat} (h:PV l=true):pe l=0:=by unfold pe;rw [if_pos h]
theorem zaG {l:List Nat} (h:PV l=false) (k:Nat):pf l k=0:=by unfold pf;rw [if_neg (by rw [h];simp)]
theorem zgt {l:List Nat} (h:PV l=false):pe l=30:=by unfold pe;rw [if_neg (by rw [h];simp)]
theorem zmz {l:List Nat} (h:l.length≠15):PV l=false:=by unfold PV;simp [h]
theorem zrq {l:List Nat} (h:mayB (pfld l 0) (pfld l 1) (pfld l 2) (pfld l 3) (pfld l 4)=false):PV l=false:=by unfold PV;simp [h]
theorem znk {l:List Nat} (h:l.length=15) (hm:mayB (pfld l 0) (pfld l 1) (pfld l 2) (pfld l 3) (pfld l 4)=true):PV l=true:=by unfold PV;simp [h,hm]
def pl (a b c d e:Int):List Nat:=if mayB a b c d e=true then tagBytes a.toNat b.toNat c.toNat d.toNat e.toNat else []
def pr (a b c d e:Int):Int:=if mayB a b c d e=true then 0 else 2
theorem zdd {a b c d e:Int} (h:mayB a b c d e=true):pl a b c d e=tagBytes a.toNat b.toNat c.toNat d.toNat e.toNat:=by unfold pl;rw [if_pos h]
theorem zfL {a b c d e:Int} (h:mayB a b c d e=true):pr a b c d e=0:=by unfold pr;rw [if_pos h]
theorem zrg {a b c d e:Int} (h:mayB a b c d e=false):pl a b c d e=[]:=by unfold pl;rw [if_neg (by rw [h];simp)]
theorem zpA {a b c d e:Int} (h:mayB a b c d e=false):pr a b c d e=2:=by unfold pr;rw [if_neg (by rw [h];simp)]
end
section
open Go
theorem zlC {l:List Nat} (h:l.length=15) (hl:∀b∈l,b<256):tagBytes (pfld l 0) (pfld l 1) (pfld l 2) (pfld l 3) (pfld l 4)=l:=by
 have step:∀k,k<5→digs (wth k) (pfld l k)=(l.drop (pos k)).take (wth k):=by
  intro k hk
  have hp:=zdW hk
  have h15:=zqz (k+1)
  have e:=zpL ((l.drop (pos k)).take (wth k)) (fun b hb=>hl b (List.mem_of_mem_drop (List.mem_of_mem_take hb)))
  rw [List.length_take,List.length_drop,Nat.min_eq_left (by omega)] at e
  exact e
 have fl:∀k,k<5→fld (pfld l 0) (pfld l 1) (pfld l 2) (pfld l 3) (pfld l 4) k=pfld l k:=by
  intro k hk
  have hj':k=0∨k=1∨k=2∨k=3∨k=4:=by omega
  rcases hj' with rfl | rfl | rfl | rfl | rfl <;> rfl
 have all:∀k,k≤5→pre (fld (pfld l 0) (pfld l 1) (pfld l 2) (pfld l 3) (pfld l 4)) k=l.take (pos k):=by
  intro k
  induction k with
  | zero=>intro _;simp [pre,pos]
  | succ k ih =>
   intro hk
   rw [pre,ih (by omega),fl k (by omega),step k (by omega),zdW (by omega),List.take_add]
 have:=all 5 (by omega)
 rw [show pos 5=15 from rfl,List.take_of_length_le (by omega)] at this
 exact this
theorem zvb {l:List Nat} (h:PV l=true) (hl:∀b∈l,b<256):pl (pf l 0) (pf l 1) (pf l 2) (pf l 3) (pf l 4)=l∧pr (pf l 0) (pf l 1) (pf l 2) (pf l 3) (pf l 4)=0:=by
 have hp:l.length=15∧mayB (pfld l 0) (pfld l 1) (pfld l 2) (pfld l 3) (pfld l 4)=true:=by
  unfold PV at h
  simpa using h
 rw [zaX h,zaX h,zaX h,zaX h,zaX h]
 exact ⟨by rw [zdd hp.2];simp only [Int.toNat_natCast];exact zlC hp.1 hl,zfL hp.2⟩
end
section
open Go
def roomN (s:Int):Nat:=if s=1 then 43 else if s=2 then 88 else 0
theorem zpp:roomN 1=43:=rfl
theorem zpd:roomN 2=88:=rfl
theorem zek {s:Int} (h1:s≠1) (h2:s≠2):roomN s=0:=by unfold roomN;rw [if_neg h1,if_neg h2]
theorem zkj (s:Int):roomN s≤88:=by unfold roomN;(repeat' split) <;> omega
theorem zev {s:Int} (h:0<roomN s):s=1∨s=2:=by
 by_cases h1:s=1
 ·exact .inl h1
 ·by_cases h2:s=2
  ·exact .inr h2
  ·rw [zek h1 h2] at h;omega
def frameH (body own:List Nat) (S:Nat):List Nat:=digs 2 body.length++own++body++List.replicate (64 * S-21-body.length) 0
def zbN (body own:List Nat) (S:Nat):List Nat:=frameH body own S++digs 4 (crcS (frameH body own S))
theorem zon {body own:List Nat} {S:Nat} (hb:∀x∈body,x<256) (ho:∀x∈own,x<256):∀x∈frameH body own S,x<256:=by
 intro x hx
 simp only [frameH,List.mem_append,List.mem_replicate] at hx
 rcases hx with ((h | h) | h) | ⟨_,h⟩
 ·exact zaV _ _ x h
 ·exact ho x h
 ·exact hb x h
 ·omega
theorem zid {body own:List Nat} {S:Nat} (ho:own.length=15) (hr:body.length≤64 * S-21) (hS:1≤S):(frameH body own S).length=64 * S-4:=by
 simp only [frameH,List.length_append,zaB,ho,List.length_replicate]
 omega
theorem zeS {body own:List Nat} {S:Nat} (ho:own.length=15) (hr:body.length≤64 * S-21) (hS:1≤S):(zbN body own S).length=64 * S:=by
 rw [zbN,List.length_append,zid ho hr hS,zaB]
 omega
theorem zdq {n S:Nat} (h:n≤roomN (S:Int)) (hS:0<roomN (S:Int)):n≤64 * S-21∧1≤S∧S≤2:=by
 rcases zev hS with h1 | h1
 ·have:S=1:=by omega
  subst this
  rw [show roomN ((1:Nat):Int)=43 from rfl] at h
  omega
 ·have:S=2:=by omega
  subst this
  rw [show roomN ((2:Nat):Int)=88 from rfl] at h
  omega
def bodyN (l:List Nat):Nat:=num (l.take 2)
def zad (l:List Nat):List Nat:=(l.drop 2).take 15
def zaH (l:List Nat):List Nat:=(l.drop 17).take (bodyN l)
def szB (l:List Nat):Bool:=decide (l.length=64) || decide (l.length=128)
def zat (l:List Nat):Bool:=szB l && PV (zad l) && decide (bodyN l≤roomN ((l.length/64:Nat):Int)) && decide (l=zbN (zaH l) (zad l) (l.length/64))
def zaO (l:List Nat):Bool:=l.all fun x=>x == 0
theorem zbA {l:List Nat} (h:zat l=true):(l.length=64∨l.length=128)∧PV (zad l)=true∧bodyN l≤roomN ((l.length/64:Nat):Int)∧l=zbN (zaH l) (zad l) (l.length/64):=by
 unfold zat szB at h
 simp only [Bool.and_eq_true,Bool.or_eq_true,decide_eq_true_eq] at h
 exact ⟨h.1.1.1,h.1.1.2,h.1.2,h.2⟩
theorem zsn {l:List Nat} (h:zaO l=true) (hl:17≤l.length):PV (zad l)=false:=by
 have hz:∀x∈l,x=0:=by
  intro x hx
  have:=List.all_eq_true.1 h x hx
  simpa using this
 have hlen:(zad l).length=15:=by unfold zad;rw [List.length_take,List.length_drop];omega
 have hrep:zad l=List.replicate 15 0:=by
  refine List.eq_replicate_iff.2 ⟨hlen,fun x hx=>hz x (List.mem_of_mem_drop (List.mem_of_mem_take hx))⟩
 rw [hrep]
 decide
theorem zeM {l:List Nat} (h:zat l=true):zaO l=false:=by
 obtain ⟨hs,hp,_,_⟩:=zbA h
 by_cases hz:zaO l=true
 ·have:=zsn hz (by omega)
  rw [this] at hp
  cases hp
 ·simpa using hz
end
theorem zay:(Tryz.prog.info? 5).map (fun i=>(i.zero,i.size,i.bytes))=some (some (.int .u8 0),1,1):=by kernel_rfl
theorem zqp (A:Option Addr) (l:List Nat) (n c B:Nat) (w:World) (hl:l.length=n) (hr:Rd w B A l) (hnil:A=none→c=0) (hm:n≤140737488355328) :
 Calls Tryz.prog 108 #[.slice A n c] w fun e w'=>∃A' c',e=.returned (.slice A' n c')∧n≤c'∧c'≤9223372036854775807∧w'.ownsRow w.heap.size 5 1 (.slice A' n c') n (vb l)∧Below w.heap.size w w':=by
 obtain ⟨i0,hi,hz0,hz1,hz2⟩:=info_parts zay
 have HL:=qj hl
 clear hl
 have fin:∀(v':Value) (w1:World),w1.ownsRow w.heap.size 5 1 v' n (vb l)→w.grownBy w1 none→∃A' c',Ending.returned v'=.returned (.slice A' n c')∧n≤c'∧c'≤9223372036854775807∧w1.ownsRow w.heap.size 5 1 (.slice A' n c') n (vb l)∧Below w.heap.size w w1:=by
  intro v' w1 hown hg
  obtain ⟨A',c',rfl,h1,h2⟩:=zbK hown
  exact ⟨A',c',rfl,h1,h2,hown,(Below.refl _ _).grown hg (Nat.le_refl _) (by simp)⟩
 have HFIN:=qj fin
 clear fin
 rcases A with _ | ad
 ·have hn0:n=0:=by
   rcases Nat.eq_zero_or_pos n with h | h
   ·exact h
   ·obtain ⟨g,o,hA,_⟩:=hr.2 (by rw [HL.out];exact h)
    cases hA
  subst hn0
  obtain rfl:=hnil rfl
  clear hnil
  have hl0:l=[]:=List.eq_nil_of_length_eq_zero HL.out
  subst hl0
  go_enter Tryz.func108,Tryz.ntmps108
  go_wp2_with (at_builtin;refine wpList_append_own_none rfl _ _ 45 rfl w.heap.size 5 i0 1 Tryz.underlying45 hi _ 0 [] rfl (World.ownsRow_nil _ _ _ _) rfl ?_)
  go_ret
  exact HFIN.out _ _ (World.ownsRow_nil _ _ _ _) (World.grownBy.refl _ _)
 ·clear hnil
  go_enter Tryz.func108,Tryz.ntmps108
  go_wp2_with (at_builtin;refine wpList_append_own _ rfl _ _ 45 rfl w.heap.size 5 i0 (.int .u8 0) 1 1 Tryz.underlying45 hi hz0 hz1 hz2 rfl (by decide) _ 0 [] rfl (World.ownsRow_nil _ _ _ _) ad n c (vb l) rfl ?c1 ?c2 ?c3 ?c4 ?c5 ?c6 ?_)
  case c1=>rw [zag,HL.out];omega
  case c2 =>
   intro j u hj
   rw [zdz] at hj
   obtain ⟨x,hx,rfl⟩:=Option.map_eq_some_iff.1 hj
   have hjl:j<l.length:=(List.getElem?_eq_some_iff.1 hx).1
   obtain ⟨g,o,y,hA,_,hy,_,hc⟩:=hr.at_ hjl
   injection hA with hA
   subst hA
   rw [hx] at hy
   injection hy with hy
   subst hy
   rw [Addr.add_lit,hc]
  case c3=>exact zde l
  case c4=>unfold maxLen;omega
  case c5=>omega
  case c6=>exact Nat.le_refl _
  intro v' w1 hown hg _
  have HO:=qj hown
  have HG:=qj hg
  clear hown hg
  go_wp2_with fail
  go_ret
  exact HFIN.out _ _ HO.out HG.out
end Go.Proofs.YtdbpdhlecgoclaaGreatDoor
