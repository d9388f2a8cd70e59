/-
  The document's disk: Flip.
-/
import Derived.Test.YtmpaocpgoihliaaGreatDoorP00
import Derived.Test.YtmpaocpgoihliaaGreatDoorP01
import Derived.Test.YtmpaocpgoihliaaGreatDoorP04
import Derived.Test.YtmpaocpgoihliaaGreatDoorP05
import Derived.Test.YtmpaocpgoihliaaGreatDoorP07
import Derived.Test.YtmpaocpgoihliaaGreatDoorP08
import Derived.Test.YtmpaocpgoihliaaGreatDoorP11
import Derived.Test.YtmpaocpgoihliaaGreatDoorP20
import Derived.Test.YtmpaocpgoihliaaGreatDoorP22
import Derived.StillTailTactics
import Derived.Deep.RegionHeld3
namespace Go.Proofs.YtmpaocpgoihliaaGreatDoor
set_option maxRecDepth 100000
section
open Go Go.RowKit
theorem RDq.setByte {w : World} {d : Nat} {p : Nat → Nat} {q : Nm} {m : DM} (h : RDq w d p q m) {j k : Nat} {x : Nat × Nat} (hj : j < m.size) (hx : q.RB[j]? = some x) {b : List Nat} {v : Nat} (hb : Sect b) (he : (vb (m.rest.getD j [])).set k (.int .u8 (v : Int)) = vb b) : RDq (w.setCell ⟨x.1, k, none⟩ (.int .u8 (v : Int))) d p q { m with rest := m.rest.set j b } := by
 have hp := (h.rb j x hx).1
 have kk := mod_one w x.1 k (.int .u8 (v : Int))
 have hs : ({ m with rest := m.rest.set j b } : DM).size = m.size := by simp [DM.size]
 have ne : ∀ i r, p i = r → r ≠ 7 + j → ¬ i = x.1 := fun i r hi hr e => by rw [e, hp] at hi; omega
 have own := fun {e s n : Nat} {v : Value} {xs : List Value} (ho : w.ownsRow 0 e s v n xs) (r : Nat) (hr : r ≠ 7 + j) (hv : ∀ i, v.ownBlock = some i → p i = r) => own_mod ho kk fun i hi => ne i r (hv i hi) hr
 refine ⟨⟨by rw [hs]; exact h.ok.meant, by rw [hs]; exact h.ok.lost, mem_set_of h.ok.rests hb, h.ok.means, by rw [hs]; exact h.ok.waits, h.ok.power⟩, ?_, ?_, ?_, ?_, ?_, ?_, h.wl, ?_, own h.pen 5 (by omega) h.pp, h.pd, h.pr, h.pm, h.pl, h.pp, h.few⟩
 ·have := h.head.mod kk (ne d 1 h.pd (by omega))
  exact ⟨by rw [hs]; exact this.head, by rw [hs]; exact this.n1⟩
 ·rw [hs]; exact own h.rr 2 (by omega) fun i hi => by injection hi with hi; subst hi; exact h.pr
 ·rw [hs]; exact own h.rm 3 (by omega) fun i hi => by injection hi with hi; subst hi; exact h.pm
 ·rw [hs]; exact own h.rl 4 (by omega) fun i hi => by injection hi with hi; subst hi; exact h.pl
 ·intro i y hy
  refine ⟨(h.rb i y hy).1, ?_⟩
  show Byt _ _ ((m.rest.set j b).getD i [])
  rw [getD_setE (by exact hj)]
  by_cases hij : j = i
  ·subst hij
   rw [hx] at hy
   injection hy with hy
   subst hy
   rw [if_pos rfl]
   have hst := (World.ownsRow.stored (g := x.1) (cap := x.2) (h.rb j x hx).2 k (.int .u8 (v : Int))).1
   rw [he] at hst
   exact hst
  ·rw [if_neg hij]
   exact (h.rb i y hy).2.mod kk (ne _ _ (h.rb i y hy).1 (by omega))
 ·intro i y hy
  exact ⟨(h.mb i y hy).1, (h.mb i y hy).2.mod kk (ne _ _ (h.mb i y hy).1 (by omega))⟩
 ·intro i y hy
  exact ⟨(h.wb i y hy).1, (h.wb i y hy).2.mod kk (ne _ _ (h.wb i y hy).1 (by omega))⟩
set_option maxHeartbeats 1600000 in
theorem rflip_out {w : World} {d : Nat} {p : Nat → Nat} {m : DM} (h : RD w d p m) (s bit : Int) (hbit : bit ≤ 9223372036854775807) : Calls Tryz.prog 142 #[.pointer (some ⟨d, 0, none⟩), .int .i64 s, .int .i64 bit] w fun e w' => e = .returned (.int .i64 (m.flip s bit).1) ∧ ROut d p w (m.flip s bit).2 w' := by
 obtain ⟨⟨q, hq⟩, hlt⟩ := h
 have hh := rhas_of hq.head s
 have HQ := Lib.hid hq
 have HLT := Lib.hid hlt
 by_cases hs : m.has s = false
 ·rw [hs] at hh
  have HH := Lib.hid hh
  have HE : Hid (m.flip s bit = (2, m)) := Lib.hid (by unfold DM.flip; rw [if_pos (.inl hs)])
  clear hh hs hq hlt
  go_enter Tryz.func142, Tryz.ntmps142
  go_wp2_with fail
  refine HH.out.mono ?_
  rintro e w1 ⟨rfl, rfl⟩
  go_wp2_with fail
  go_ret
  rw [HE.out]
  exact ⟨rfl, p, ⟨⟨q, HQ.out⟩, HLT.out⟩, Mod.refl _ _, fun k hk => .inl hk⟩
 have hs' : m.has s = true := by simpa using hs
 rw [hs'] at hh
 have HH := Lib.hid hh
 by_cases hb : bit < 0
 ·have HE : Hid (m.flip s bit = (2, m)) := Lib.hid (by unfold DM.flip; rw [if_pos (.inr hb)])
  clear hh hs hs' hq hlt
  go_enter Tryz.func142, Tryz.ntmps142
  go_wp2_with fail
  refine HH.out.mono ?_
  rintro e w1 ⟨rfl, rfl⟩
  go_wp2_with fail
  go_ret
  rw [HE.out]
  exact ⟨rfl, p, ⟨⟨q, HQ.out⟩, HLT.out⟩, Mod.refl _ _, fun k hk => .inl hk⟩
 obtain ⟨s0, s1⟩ := DM.has_iff.1 hs'
 obtain ⟨j, rfl⟩ := Int.eq_ofNat_of_zero_le s0
 obtain ⟨bt, rfl⟩ := Int.eq_ofNat_of_zero_le (show 0 ≤ bit by omega)
 have hj : j < m.size := by omega
 obtain ⟨pk, hpk⟩ : ∃ pk, bt % 512 = pk := ⟨_, rfl⟩
 have HE : Hid (m.flip (j : Int) (bt : Int) = (0, { m with rest := m.rest.set j (flipB (m.rest.getD j []) pk) })) := Lib.hid (by unfold DM.flip; rw [if_neg (fun h => h.elim hs hb), Int.toNat_natCast, Int.toNat_natCast, hpk])
 have hp5 : pk < 512 := by omega
 have hmd : (bt : Int).tmod 512 = (pk : Int) := by rw [Int.tmod_eq_emod_of_nonneg (by omega)]; omega
 obtain ⟨x, hx, hxc, _, _⟩ := hq.restAt hj
 have hsec : Sect (m.rest.getD j []) := by
  have hil : j < m.rest.length := hj
  rw [List.getD_eq_getElem?_getD, List.getElem?_eq_getElem hil, Option.getD_some]
  exact hq.ok.rests _ (List.getElem_mem hil)
 obtain ⟨kq, hqe⟩ : ∃ q, pk / 8 = q := ⟨_, rfl⟩
 obtain ⟨kr, hre⟩ : ∃ r, pk % 8 = r := ⟨_, rfl⟩
 obtain ⟨y, hy⟩ : ∃ y, (m.rest.getD j [])[kq]? = some y := ⟨_, List.getElem?_eq_getElem (by rw [hsec.1]; omega)⟩
 have hy2 : y < 256 := hsec.2 y (List.mem_of_getElem? hy)
 have hm8 : kr < 8 := by omega
 have hx8 := turn_u8 y kr hy2 hm8
 have HS : Hid ((vb (m.rest.getD j [])).set kq (.int .u8 ((y ^^^ 2 ^ kr : Nat) : Int)) = vb (flipB (m.rest.getD j []) pk)) := Lib.hid (by
  rw [flipB_set (by rw [hqe]; exact hy), ← vb_set, hqe, hre])
 have HSC : Hid (Sect (flipB (m.rest.getD j []) pk)) := Lib.hid ⟨by rw [flipB_length]; exact hsec.1, flipB_lt _ hsec.2⟩
 have hqw : IntKind.i64.wrap ((pk : Int) / 8) = (kq : Int) := by rw [IntWalk.i64_in _ (by omega)]; omega
 have hrm : (pk : Int).tmod 8 = (kr : Int) := by rw [Int.tmod_eq_emod_of_nonneg (by omega)]; omega
 have hb0 : (0 : Int) ≤ (kq : Int) := by omega
 have hb1 : (kq : Int) < 64 := by omega
 have hm0 : (0 : Int) ≤ (kr : Int) := by omega
 have hwr : IntKind.u64.wrap (kr : Int) = (kr : Int) := by rw [IntKind.wrap_u64]; omega
 have hb := (hq.rb j x hx).2
 have hbc : w.cell? ⟨x.1, kq, none⟩ = some (.int .u8 (y : Int)) := by
  rw [World.ownsRow.cellAt (g := x.1) (cap := x.2) hb kq (by omega), vb_get, hy]
  rfl
 have hbf : w.frozen? ⟨x.1, kq, none⟩ = false := World.ownsRow.frozenAt (g := x.1) (cap := x.2) hb kq
 have hbl := hb.lt
 obtain ⟨⟨d0, _⟩, _⟩ := hq.head.cells
 have hsz := hq.head.n1.2
 have hpx := (hq.rb j x hx).1
 unfold slV at hxc
 have d0 : w.drew.cell? ⟨d, 0, none⟩ = some (.slice (some ⟨q.gr, 0, none⟩) m.size q.cr) := d0
 have hxc : w.drew.cell? ⟨q.gr, j, none⟩ = some (.slice (some ⟨x.1, 0, none⟩) 64 x.2) := hxc
 have hbc : w.drew.cell? ⟨x.1, kq, none⟩ = some (.int .u8 (y : Int)) := hbc
 have hbf : w.drew.frozen? ⟨x.1, kq, none⟩ = false := hbf
 have hbl : x.1 < w.drew.heap.size := hbl
 have HX := Lib.hid hx
 have HJ := Lib.hid hj
 have HPX := Lib.hid hpx
 clear hh hs hs' hq hlt hx hsec hy hqe hre hb hpx hpk
 go_enter Tryz.func142, Tryz.ntmps142
 go_wp2_with fail
 refine HH.out.mono ?_
 rintro e w1 ⟨rfl, rfl⟩
 go_wp2_with fail
 refine still_tail 26 (by kernel_rfl) (by kernel_rfl) ?_
 simp only [List.take_succ_cons, List.take_zero, List.drop_succ_cons, List.drop_zero]
 have HQd := Lib.hid (HQ.out.ext (Ext.refl w).drew)
 have HMd : Hid (Mod (fun k => p k ≠ 0) w w.drew) := Lib.hid (Mod.drew (Mod.refl _ _))
 have HLd : Hid (∀ k, p k ≠ 0 → k < w.drew.heap.size) := HLT
 generalize w.drew = w2 at *
 still_step
 still_step
 still_step
 still_step
 still_step
 still_step
 still_step
 still_step
 still_step
 still_step
 still_step
 still_step
 still_step
 still_step
 still_step
 still_step
 still_step
 still_step
 still_step
 still_step
 still_step
 still_step
 still_step
 still_step
 still_step
 still_step
 refine wpStill_nil ?_
 go_wp2_with (rw [hx8])
 go_ret
 rw [HE.out]
 exact ⟨rfl, p, ⟨⟨q, HQd.out.setByte HJ.out HX.out HSC.out HS.out⟩, fun i hi => by have := HLd.out i hi; simpa [World.setCell] using this⟩, HMd.out.trans (mod_one w2 x.1 kq (.int .u8 ((y ^^^ 2 ^ kr : Nat) : Int))) (fun i hi => .inl (by rw [hi, HPX.out]; omega)), fun k hk => .inl hk⟩
end
section
open Go Go.RowKit
theorem RD.ext {w w' : World} {d : Nat} {p : Nat → Nat} {m : DM} (h : RD w d p m) (k : Ext w w') : RD w' d p m := by
 obtain ⟨⟨q, hq⟩, hlt⟩ := h
 exact ⟨⟨q, hq.ext k⟩, fun i hi => Nat.lt_of_lt_of_le (hlt i hi) k.size⟩
theorem RD.mod {w w' : World} {d : Nat} {p : Nat → Nat} {m : DM} {F : Nat → Prop} (h : RD w d p m) (k : Mod F w w') (hF : ∀ i, p i ≠ 0 → ¬ F i) : RD w' d p m := by
 obtain ⟨⟨q, hq⟩, hlt⟩ := h
 exact ⟨⟨q, hq.mod k hF⟩, fun i hi => Nat.lt_of_lt_of_le (hlt i hi) k.size⟩
theorem ROut.from {w w1 w2 : World} {d : Nat} {p : Nat → Nat} {m' : DM} (h : Ext w w1) (k : ROut d p w1 m' w2) : ROut d p w m' w2 := by
 obtain ⟨p', h1, h2, h3⟩ := k
 exact ⟨p', h1, (Mod.of_ext h).trans h2 fun i hi => .inl hi, fun i hi => (h3 i hi).imp id fun e => Nat.le_trans h.size e⟩
theorem keep5 {u w' : World} {g : Nat} {x0 x1 x2 x3 x4 : Value} {t : TypeId} {G : Nat → Prop} (k : Hid (Mod G u w')) (hg : Hid (¬ G g)) (h : Hid (u.heap[g]? = some (.cells #[x0, x1, x2, x3, x4] t (0, 0)))) :
 w'.cell? ⟨g, 0, none⟩ = some x0 ∧ w'.cell? ⟨g, 1, none⟩ = some x1 ∧ w'.cell? ⟨g, 2, none⟩ = some x2 ∧ w'.cell? ⟨g, 3, none⟩ = some x3 ∧ w'.cell? ⟨g, 4, none⟩ = some x4 := by
 have h2 := heap_mod h.out k.out hg.out
 exact ⟨cell_of_row w' g 0 _ _ _ h2, cell_of_row w' g 1 _ _ _ h2, cell_of_row w' g 2 _ _ _ h2, cell_of_row w' g 3 _ _ _ h2, cell_of_row w' g 4 _ _ _ h2⟩
theorem off_new {V w1 : World} {A : Option Addr} {n c : Nat} {xs : List Value} {p : Nat → Nat} (h : w1.ownsRow V.heap.size 5 1 (.slice A n c) n xs) (hp : ∀ i, p i ≠ 0 → i < V.heap.size) : ¬ ∃ g o, A = some ⟨g, o, none⟩ ∧ p g ≠ 0 := by
 rintro ⟨g, o, rfl, hg⟩
 rcases h.2 with ⟨e, _⟩ | ⟨g2, cap, cur, e, hb, _⟩
 ·injection e with e1 _ _
  cases e1
 ·injection e with e1 _ _
  injection e1 with e1
  injection e1 with e1 _
  subst e1
  exact absurd (hp _ hg) (by omega)
theorem rout_mod {w w2 : World} {d : Nat} {p : Nat → Nat} {m' : DM} (k : ROut d p w m' w2) : Mod (fun i => p i ≠ 0) w w2 := by
 obtain ⟨_, _, h, _⟩ := k
 exact h
set_option maxHeartbeats 6400000 in
theorem rsame_of {w : World} {d : Nat} {p : Nat → Nat} {m : DM} (h : RD w d p m) (a : Act5) (ha : a.Ok w w.heap.size) (hk : 0 < a.kn → Off (fun i => p i ≠ 0) a.kA) (hn : a.bn ≤ 200) (hfew : m.waits.length ≤ 1000000) :
 Calls Tryz.prog 60 #[.pointer (some ⟨d, 0, none⟩), .agg #[.int .u8 (a.kind : Int), .int .i64 a.sec, .int .i64 a.num, .slice a.bA a.bn a.bc, .slice a.kA a.kn a.kc]] w fun e w' => e = .returned (.int .i64 (m.act a.kind a.sec a.num a.bl a.kl).1) ∧ ROut d p w (m.act a.kind a.sec a.num a.bl a.kl).2 w' := by
 have hE := (Ext.refl w).alloc (.cells #[.int .u8 (a.kind : Int), .int .i64 a.sec, .int .i64 a.num, .slice a.bA a.bn a.bc, .slice a.kA a.kn a.kc] 48)
 have hrow := heap_alloc_new w (.cells #[.int .u8 (a.kind : Int), .int .i64 a.sec, .int .i64 a.num, .slice a.bA a.bn a.bc, .slice a.kA a.kn a.kc] 48)
 have H := Lib.hid (h.ext hE)
 have HLT := Lib.hid h.2
 have HA := Lib.hid (ha.ext hE)
 have HK := Lib.hid hk
 have HE := Lib.hid hE
 have HROW := Lib.hid hrow
 have hnum : a.num ≤ 9223372036854775807 := (bounds_i64 ha.num).2
 have HNUM := Lib.hid hnum
 obtain ⟨r, hr⟩ : ∃ r, a.kind % 9 = r := ⟨_, rfl⟩
 have hr9 : r < 9 := by omega
 have hrm : ((a.kind : Nat) : Int).tmod 9 = (r : Int) := by rw [Int.tmod_eq_emod_of_nonneg (by omega)]; omega
 have HACT := Lib.hid (act_actR m a.kind r hr a.sec a.num a.bl a.kl)
 clear h ha hk hE hr hnum hrow
 have hcases : r = 0 ∨ r = 1 ∨ r = 2 ∨ r = 3 ∨ r = 4 ∨ r = 5 ∨ r = 8 ∨ (r = 6 ∨ r = 7) := by omega
 rcases hcases with e | e | e | e | e | e | e | e
 ·subst e
  go_enter Tryz.func60, Tryz.ntmps60
  go_wp2_with fail
  refine (rflush_out H.out hfew).mono ?_
  rintro e w2 ⟨rfl, ho⟩
  have HF := Lib.hid (ROut.from HE.out ho)
  clear ho
  go_wp2_with fail
  go_ret
  rw [HACT.out]
  exact ⟨rfl, HF.out⟩
 ·subst e
  go_enter Tryz.func60, Tryz.ntmps60
  go_wp2_with fail
  refine (rcrash_out H.out hfew a.kA a.kn a.kc a.kl HA.out.keep HK.out).mono ?_
  rintro e w2 ⟨rfl, ho⟩
  have HF := Lib.hid (ROut.from HE.out ho)
  clear ho
  go_wp2_with fail
  go_ret
  rw [HACT.out]
  exact ⟨rfl, HF.out⟩
 ·subst e
  go_enter Tryz.func60, Tryz.ntmps60
  go_wp2_with fail
  refine (rstart_out H.out).mono ?_
  rintro e w2 ⟨rfl, ho⟩
  have HF := Lib.hid (ROut.from HE.out ho)
  clear ho
  go_wp2_with fail
  go_ret
  rw [HACT.out]
  exact ⟨rfl, HF.out⟩
 ·subst e
  go_enter Tryz.func60, Tryz.ntmps60
  go_wp2_with fail
  refine (rflip_out H.out a.sec a.num HNUM.out).mono ?_
  rintro e w2 ⟨rfl, ho⟩
  have HF := Lib.hid (ROut.from HE.out ho)
  clear ho
  go_wp2_with fail
  go_ret
  rw [HACT.out]
  exact ⟨rfl, HF.out⟩
 ·subst e
  go_enter Tryz.func60, Tryz.ntmps60
  go_wp2_with fail
  refine (rlose_out H.out a.sec).mono ?_
  rintro e w2 ⟨rfl, ho⟩
  have HF := Lib.hid (ROut.from HE.out ho)
  clear ho
  go_wp2_with fail
  go_ret
  rw [HACT.out]
  exact ⟨rfl, HF.out⟩
 ·subst e
  go_enter Tryz.func60, Tryz.ntmps60
  go_wp2_with fail
  refine (rstray_out H.out a.sec a.num).mono ?_
  rintro e w2 ⟨rfl, ho⟩
  have HF := Lib.hid (ROut.from HE.out ho)
  clear ho
  go_wp2_with fail
  go_ret
  rw [HACT.out]
  exact ⟨rfl, HF.out⟩
 ·subst e
  go_enter Tryz.func60, Tryz.ntmps60
  go_wp2_with fail
  refine (rpower_out H.out a.num HNUM.out).mono ?_
  rintro e w2 ⟨rfl, ho⟩
  have HF := Lib.hid (ROut.from HE.out ho)
  clear ho
  go_wp2_with fail
  go_ret
  rw [HACT.out]
  exact ⟨rfl, HF.out⟩
 ·have HACT1 : Hid (m.act a.kind a.sec a.num a.bl a.kl = m.write a.sec (actB a.num a.bl)) := Lib.hid (by
   rw [HACT.out]
   rcases e with rfl | rfl <;> rfl)
  have g0 : ((r : Int) == 0) = false := by rw [beq_eq_false_iff_ne]; omega
  have g1 : ((r : Int) == 1) = false := by rw [beq_eq_false_iff_ne]; omega
  have g2 : ((r : Int) == 2) = false := by rw [beq_eq_false_iff_ne]; omega
  have g3 : ((r : Int) == 3) = false := by rw [beq_eq_false_iff_ne]; omega
  have g4 : ((r : Int) == 4) = false := by rw [beq_eq_false_iff_ne]; omega
  have g5 : ((r : Int) == 5) = false := by rw [beq_eq_false_iff_ne]; omega
  have g8 : ((r : Int) == 8) = false := by rw [beq_eq_false_iff_ne]; omega
  obtain ⟨V, hV⟩ : ∃ V, w.alloc (.cells #[.int .u8 (a.kind : Int), .int .i64 a.sec, .int .i64 a.num, .slice a.bA a.bn a.bc, .slice a.kA a.kn a.kc] 48) = V := ⟨_, rfl⟩
  have hVs : V.heap.size = w.heap.size + 1 := by rw [← hV]; simp
  rw [hV] at H HA HE HROW
  have HG : Hid (¬ (fun i => p i ≠ 0) w.heap.size) := Lib.hid fun h => absurd (HLT.out _ h) (by omega)
  have HRd : Hid (V.drew.heap[w.heap.size]? = _) := HROW
  have HM0 : Hid (Mod (fun i => p i ≠ 0) V.drew V.drew) := Lib.hid (Mod.refl _ _)
  have HAd := Lib.hid (HA.out.ext (Ext.refl V).drew)
  have HDd := Lib.hid (H.out.ext (Ext.refl V).drew)
  obtain ⟨c0, c1, c2, c3, c4⟩ := keep5 HM0 HG HRd
  have hc0 := cell_of_row V w.heap.size 0 _ _ _ HROW.out
  have HVS := Lib.hid hVs
  have HSEC : Hid (Calls Tryz.prog 133 #[.agg #[.int .u8 (a.kind : Int), .int .i64 a.sec, .int .i64 a.num, .slice a.bA a.bn a.bc, .slice a.kA a.kn a.kc]] V.drew fun e w' => ∃ A n c, e = .returned (.slice A n c) ∧ w'.ownsRow V.drew.heap.size 5 1 (.slice A n c) n (vb (actB a.num a.bl)) ∧ Ext V.drew w') := Lib.hid (sector_of a _ HAd.out (by omega))
  clear HACT e HROW H HA
  go_enter Tryz.func60, Tryz.ntmps60
  go_wp2_with fail
  go_region_held3 (fun w' => w'.cell? ⟨w.heap.size, 0, none⟩ = some (.int .u8 (a.kind : Int)) ∧ w'.cell? ⟨w.heap.size, 1, none⟩ = some (.int .i64 a.sec) ∧ w'.cell? ⟨w.heap.size, 2, none⟩ = some (.int .i64 a.num) ∧ w'.cell? ⟨w.heap.size, 3, none⟩ = some (.slice a.bA a.bn a.bc) ∧ w'.cell? ⟨w.heap.size, 4, none⟩ = some (.slice a.kA a.kn a.kc))
   (first | exact keep5 (by assumption) HG HRd)
   (first
    | (go_at_call 133; ((with_reducible refine HSEC.out.mono ?_); rintro e w1 ⟨A, n, c, rfl, hown, hx⟩; have HM1 : Hid (Mod (fun i => p i ≠ 0) V.drew w1) := Lib.hid (Mod.of_ext hx); have HX1 := Lib.hid hx; have HD1 := Lib.hid (HDd.out.ext hx); have HB1 : Hid (By w1 A n c (actB a.num a.bl)) := Lib.hid (Bs.of_own hown (actB_lt HAd.out.bytes.rd.lt)); have HO1 := Lib.hid (off_new hown (fun i hi => by have := HLT.out i hi; have h2 := HVS.out; show i < V.heap.size; omega)); clear hown hx))
    | (go_at_call 61; ((with_reducible refine (rwrite_out HD1.out a.sec A n c (actB a.num a.bl) HB1.out HO1.out hfew).mono ?_); rintro e w2 ⟨rfl, ho⟩; have HM2 : Hid (Mod (fun i => p i ≠ 0) V.drew w2) := Lib.hid (HM1.out.trans (rout_mod ho) fun i hi => .inl hi); have HF := Lib.hid (ROut.from (((HE.out.trans (Ext.refl V).drew)).trans HX1.out) ho); clear ho)))
  all_goals
   go_wp2_with fail
   go_ret
   rw [HACT1.out]
   exact ⟨rfl, HF.out⟩
end
section
open Go Go.RowKit
theorem num_one (x : Nat) : num [x] = x := by simp [num]
theorem pfld_byte {l : List Nat} {k x : Nat} (hk : k < 3) (h : l[k]? = some x) : pfld l k = x := by
 have hj : k = 0 ∨ k = 1 ∨ k = 2 := by omega
 have hp : pos k = k ∧ wth k = 1 := by rcases hj with rfl | rfl | rfl <;> exact ⟨rfl, rfl⟩
 have hl : k < l.length := (List.getElem?_eq_some_iff.1 h).1
 unfold pfld
 rw [hp.1, hp.2, List.drop_eq_getElem_cons hl, List.take_succ_cons, List.take_zero, num_one]
 rw [List.getElem?_eq_getElem hl] at h
 exact Option.some.inj h
set_option maxHeartbeats 3200000 in
theorem rparse_any (A : Option Addr) (n cp : Nat) (l : List Nat) (w : World) (hb : By w A n cp l) (hn : n ≤ 9000000000000000000) :
 Calls Tryz.prog 250 #[.slice A n cp] w fun r w' => r = .returned (.tuple #[.agg #[.int .i64 (pf l 0), .int .i64 (pf l 1), .int .i64 (pf l 2), .int .i64 (pf l 3), .int .i64 (pf l 4)], .int .i64 (pe l)]) ∧ Ext w w' := by
 have hE := (Ext.refl w).alloc (.cells #[.int .i64 0, .int .i64 0, .int .i64 0, .int .i64 0, .int .i64 0] 44)
 have hz : (w.alloc (.cells #[.int .i64 0, .int .i64 0, .int .i64 0, .int .i64 0, .int .i64 0] 44)).heap[w.heap.size]? = some (.cells #[.int .i64 0, .int .i64 0, .int .i64 0, .int .i64 0, .int .i64 0] 44 (0, 0)) := heap_alloc_new w _
 have HB := Lib.hid (hb.ext hE)
 have HE := Lib.hid hE
 have HZ := Lib.hid hz
 by_cases h15 : n = 15
 ·subst h15
  have HG3 := Lib.hid (get_fld (l := l) (k := 3) (by omega) (by rw [hb.len]; decide))
  have HG4 := Lib.hid (get_fld (l := l) (k := 4) (by omega) (by rw [hb.len]; decide))
  obtain ⟨g, o, x0, hA, hg, h0, hx0, c0⟩ := HB.out.rd.at_ (k := 0) (by rw [HB.out.len]; omega)
  subst hA
  obtain ⟨g', o', x1, hA, _, h1, hx1, c1⟩ := HB.out.rd.at_ (k := 1) (by rw [HB.out.len]; omega)
  injection hA with hA; injection hA with hA1 hA2; subst hA1; subst hA2
  obtain ⟨g', o', x2, hA, _, h2, hx2, c2⟩ := HB.out.rd.at_ (k := 2) (by rw [HB.out.len]; omega)
  injection hA with hA; injection hA with hA1 hA2; subst hA1; subst hA2
  have HP0 := Lib.hid (pfld_byte (by omega) h0)
  have HP1 := Lib.hid (pfld_byte (by omega) h1)
  have HP2 := Lib.hid (pfld_byte (by omega) h2)
  have HL := Lib.hid hb.len
  clear hb hE hz h0 h1 h2
  go_enter Tryz.func250, Tryz.ntmps250
  go_wp2_with fail
  refine (rget_any (some ⟨g, o, none⟩) l 15 cp _ 3 6 _ HB.out.len HB.out.rd (by omega)).mono ?_
  rw [show getS l 3 6 = (pfld l 3, 9, 0) from HG3.out]
  rintro r w2 ⟨rfl, rfl⟩
  go_wp2_with fail
  refine (rget_any (some ⟨g, o, none⟩) l 15 cp _ 9 6 _ HB.out.len HB.out.rd (by omega)).mono ?_
  rw [show getS l 9 6 = (pfld l 4, 15, 0) from HG4.out]
  rintro r w2 ⟨rfl, rfl⟩
  go_wp2_with fail
  generalize (w.alloc (.cells #[.int .i64 0, .int .i64 0, .int .i64 0, .int .i64 0, .int .i64 0] 44)) = W at *
  have hne := World.new_ne W _ c0
  rw [Nat.add_zero] at c0
  have e0 : IntKind.i64.wrap (x0 : Int) = (x0 : Int) := IntWalk.i64_in _ (by omega)
  have e1 : IntKind.i64.wrap (x1 : Int) = (x1 : Int) := IntWalk.i64_in _ (by omega)
  have e2 : IntKind.i64.wrap (x2 : Int) = (x2 : Int) := IntWalk.i64_in _ (by omega)
  go_region_held3 (fun w' => w'.cell? ⟨g, o, none⟩ = some (.int .u8 x0) ∧ w'.cell? ⟨g, o + 1, none⟩ = some (.int .u8 x1) ∧ w'.cell? ⟨g, o + 2, none⟩ = some (.int .u8 x2))
   (first | with_reducible exact ⟨c0, c1, c2⟩ | go_keep)
   (first | (go_at_call 0; fail))
  clear e0 e1 e2 c0 c1 c2 hne
  have hx1 : Ext W (W.alloc (.cells #[.int .i64 x0, .int .i64 x1, .int .i64 x2, .int .i64 (pfld l 3), .int .i64 (pfld l 4)] 44)).drew := ((Ext.refl W).alloc _).drew
  have hlt0 : w.heap.size < W.heap.size := (Array.getElem?_eq_some_iff.1 HZ.out).1
  have hz1 := (hx1.block _ hlt0).trans HZ.out
  have hr1 : (W.alloc (.cells #[.int .i64 x0, .int .i64 x1, .int .i64 x2, .int .i64 (pfld l 3), .int .i64 (pfld l 4)] 44)).drew.heap[W.heap.size]? = some (.cells #[.int .i64 x0, .int .i64 x1, .int .i64 x2, .int .i64 (pfld l 3), .int .i64 (pfld l 4)] 44 (0, 0)) := heap_alloc_new W _
  have HZ1 := Lib.hid hz1
  have HR1 := Lib.hid hr1
  have HX1 := Lib.hid (HE.out.trans hx1)
  clear hx1 hlt0 hz1 hr1
  by_cases hm : mayB (x0 : Int) x1 x2 (pfld l 3) (pfld l 4) = true
  ·have HM := Lib.hid hm
   have HV := Lib.hid (PV_both HL.out (by rw [HP0.out, HP1.out, HP2.out]; exact hm))
   clear hm
   go_wp2_with fail
   refine (rmay_any _ _ _ _ _ _).mono ?_
   rw [HM.out]
   rintro r w3 ⟨rfl, hx⟩
   have hb2 := (hx.block _ (Array.getElem?_eq_some_iff.1 HZ1.out).1).trans HZ1.out
   have hr2 := (hx.block _ (Array.getElem?_eq_some_iff.1 HR1.out).1).trans HR1.out
   have HE := Lib.hid (HX1.out.trans hx)
   clear hx
   obtain ⟨⟨c0, c1, c2, c3, c4⟩, f0, f1, f2, f3, f4⟩ := five_cells hb2
   obtain ⟨⟨d0, d1, d2, d3, d4⟩, _⟩ := five_cells hr2
   clear hb2 hr2
   go_wp2_with fail
   refine bodyPost_ret (v := .tuple #[.agg #[.int .i64 x0, .int .i64 x1, .int .i64 x2, .int .i64 (pfld l 3), .int .i64 (pfld l 4)], .int .i64 0]) ?_ rfl ⟨?_, ?_⟩
   ·simp [results, Tryz.results250, go_sem, c0, c1, c2, c3, c4]
   ·rw [pf_yes HV.out, pf_yes HV.out, pf_yes HV.out, pf_yes HV.out, pf_yes HV.out, pe_yes HV.out, HP0.out, HP1.out, HP2.out]
   ·exact five_ext HE.out (Nat.le_refl _) _ _ _ _ _
  ·have hm' : mayB (x0 : Int) x1 x2 (pfld l 3) (pfld l 4) = false := by simpa using hm
   have HM := Lib.hid hm'
   have HV := Lib.hid (PV_may (l := l) (by rw [HP0.out, HP1.out, HP2.out]; exact hm'))
   clear hm hm'
   go_wp2_with fail
   refine (rmay_any _ _ _ _ _ _).mono ?_
   rw [HM.out]
   rintro r w3 ⟨rfl, hx⟩
   have hb2 := (hx.block _ (Array.getElem?_eq_some_iff.1 HZ1.out).1).trans HZ1.out
   have HE := Lib.hid (HX1.out.trans hx)
   clear hx
   obtain ⟨⟨c0, c1, c2, c3, c4⟩, f0, f1, f2, f3, f4⟩ := five_cells hb2
   clear hb2
   go_wp2_with fail
   refine bodyPost_ret (v := .tuple #[.agg #[.int .i64 0, .int .i64 0, .int .i64 0, .int .i64 0, .int .i64 0], .int .i64 30]) ?_ rfl ⟨?_, ?_⟩
   ·simp [results, Tryz.results250, go_sem, c0, c1, c2, c3, c4]
   ·rw [pf_no HV.out, pf_no HV.out, pf_no HV.out, pf_no HV.out, pf_no HV.out, pe_no HV.out]; rfl
   ·exact five_ext HE.out (Nat.le_refl _) _ _ _ _ _
 ·have HV := Lib.hid (PV_len (l := l) (by rw [hb.len]; exact h15))
  have hne : ((n : Int) != (15 : Int)) = true := by rw [bne_iff_ne]; omega
  obtain ⟨⟨c0, c1, c2, c3, c4⟩, f0, f1, f2, f3, f4⟩ := five_cells hz
  clear hb hE hz h15
  go_enter Tryz.func250, Tryz.ntmps250
  go_wp2_with fail
  refine bodyPost_ret (v := .tuple #[.agg #[.int .i64 0, .int .i64 0, .int .i64 0, .int .i64 0, .int .i64 0], .int .i64 30]) ?_ rfl ⟨?_, ?_⟩
  ·simp [results, Tryz.results250, go_sem, c0, c1, c2, c3, c4]
  ·rw [pf_no HV.out, pf_no HV.out, pf_no HV.out, pf_no HV.out, pf_no HV.out, pe_no HV.out]; rfl
  ·exact HE.out
end
end Go.Proofs.YtmpaocpgoihliaaGreatDoor
