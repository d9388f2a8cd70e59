/-
  The document's disk: Flip.
-/
import Derived.Test.YtldgamgdbneneaaRCome
import Derived.Test.YtldgamgdbneneaaPat
import Derived.Test.YtldgamgdbneneaaFlip
import Derived.Test.YtldgamgdbneneaaKFlip
import Derived.StillTailTactics
namespace Go.Proofs.Ytldgamgdbneneaa
open Go Go.RowKit

/-- A byte at rest is other. -/
theorem RDq.setByte {w : World} {d : Nat} {p : Nat → Nat} {q : Nm} {m : DM} (h : RDq w d p q m) {j k : Nat} {x : Nat × Nat} (hj : j < m.size) (hx : q.RB[j]? = some x) {b : List Nat} {v : Nat} (hb : Sect b) (he : (vb (m.rest.getD j [])).set k (.int .u8 (v : Int)) = vb b) : RDq (w.setCell ⟨x.1, k, none⟩ (.int .u8 (v : Int))) d p q { m with rest := m.rest.set j b } := by
  have hp := (h.rb j x hx).1
  have kk := mod_one w x.1 k (.int .u8 (v : Int))
  have hs : ({ m with rest := m.rest.set j b } : DM).size = m.size := by simp [DM.size]
  have ne : ∀ i r, p i = r → r ≠ 7 + j → ¬ i = x.1 := fun i r hi hr e => by rw [e, hp] at hi; omega
  have own := fun {e s n : Nat} {v : Value} {xs : List Value} (ho : w.ownsRow 0 e s v n xs) (r : Nat) (hr : r ≠ 7 + j) (hv : ∀ i, v.ownBlock = some i → p i = r) => own_mod ho kk fun i hi => ne i r (hv i hi) hr
  refine ⟨⟨by rw [hs]; exact h.ok.meant, by rw [hs]; exact h.ok.lost, mem_set_of h.ok.rests hb, h.ok.means, by rw [hs]; exact h.ok.waits, h.ok.power⟩, ?_, ?_, ?_, ?_, ?_, ?_, h.wl, ?_, own h.pen 5 (by omega) h.pp, h.pd, h.pr, h.pm, h.pl, h.pp, h.few⟩
  · have := h.head.mod kk (ne d 1 h.pd (by omega))
    exact ⟨by rw [hs]; exact this.head, by rw [hs]; exact this.n1⟩
  · rw [hs]; exact own h.rr 2 (by omega) fun i hi => by injection hi with hi; subst hi; exact h.pr
  · rw [hs]; exact own h.rm 3 (by omega) fun i hi => by injection hi with hi; subst hi; exact h.pm
  · rw [hs]; exact own h.rl 4 (by omega) fun i hi => by injection hi with hi; subst hi; exact h.pl
  · intro i y hy
    refine ⟨(h.rb i y hy).1, ?_⟩
    show Byt _ _ ((m.rest.set j b).getD i [])
    rw [getD_setE (by exact hj)]
    by_cases hij : j = i
    · subst hij
      rw [hx] at hy
      injection hy with hy
      subst hy
      rw [if_pos rfl]
      have hst := (World.ownsRow.stored (g := x.1) (cap := x.2) (h.rb j x hx).2 k (.int .u8 (v : Int))).1
      rw [he] at hst
      exact hst
    · rw [if_neg hij]
      exact (h.rb i y hy).2.mod kk (ne _ _ (h.rb i y hy).1 (by omega))
  · intro i y hy
    exact ⟨(h.mb i y hy).1, (h.mb i y hy).2.mod kk (ne _ _ (h.mb i y hy).1 (by omega))⟩
  · intro i y hy
    exact ⟨(h.wb i y hy).1, (h.wb i y hy).2.mod kk (ne _ _ (h.wb i y hy).1 (by omega))⟩

set_option maxRecDepth 100000 in
set_option maxHeartbeats 1600000 in
theorem rflip_out {w : World} {d : Nat} {p : Nat → Nat} {m : DM} (h : RD w d p m) (s bit : Int) (hbit : bit ≤ 9223372036854775807) : Calls Try.prog 26 #[.pointer (some ⟨d, 0, none⟩), .int .i64 s, .int .i64 bit] w fun e w' => e = .returned (.int .i64 (m.flip s bit).1) ∧ ROut d p w (m.flip s bit).2 w' := by
  obtain ⟨⟨q, hq⟩, hlt⟩ := h
  have hh := rhas_of hq.head s
  have HQ := Lib.hid hq
  have HLT := Lib.hid hlt
  by_cases hs : m.has s = false
  · rw [hs] at hh
    have HH := Lib.hid hh
    have HE : Hid (m.flip s bit = (2, m)) := Lib.hid (by unfold DM.flip; rw [if_pos (.inl hs)])
    clear hh hs hq hlt
    go_enter Try.func26, Try.ntmps26
    go_wp2_with fail
    refine HH.out.mono ?_
    rintro e w1 ⟨rfl, rfl⟩
    go_wp2_with fail
    go_ret
    rw [HE.out]
    exact ⟨rfl, p, ⟨⟨q, HQ.out⟩, HLT.out⟩, Mod.refl _ _, fun k hk => .inl hk⟩
  have hs' : m.has s = true := by simpa using hs
  rw [hs'] at hh
  have HH := Lib.hid hh
  by_cases hb : bit < 0
  · have HE : Hid (m.flip s bit = (2, m)) := Lib.hid (by unfold DM.flip; rw [if_pos (.inr hb)])
    clear hh hs hs' hq hlt
    go_enter Try.func26, Try.ntmps26
    go_wp2_with fail
    refine HH.out.mono ?_
    rintro e w1 ⟨rfl, rfl⟩
    go_wp2_with fail
    go_ret
    rw [HE.out]
    exact ⟨rfl, p, ⟨⟨q, HQ.out⟩, HLT.out⟩, Mod.refl _ _, fun k hk => .inl hk⟩
  obtain ⟨s0, s1⟩ := DM.has_iff.1 hs'
  obtain ⟨j, rfl⟩ := Int.eq_ofNat_of_zero_le s0
  obtain ⟨bt, rfl⟩ := Int.eq_ofNat_of_zero_le (show 0 ≤ bit by omega)
  have hj : j < m.size := by omega
  obtain ⟨pk, hpk⟩ : ∃ pk, bt % 512 = pk := ⟨_, rfl⟩
  have HE : Hid (m.flip (j : Int) (bt : Int) = (0, { m with rest := m.rest.set j (flipB (m.rest.getD j []) pk) })) := Lib.hid (by unfold DM.flip; rw [if_neg (fun h => h.elim hs hb), Int.toNat_natCast, Int.toNat_natCast, hpk])
  have hp5 : pk < 512 := by omega
  have hmd : (bt : Int).tmod 512 = (pk : Int) := by rw [Int.tmod_eq_emod_of_nonneg (by omega)]; omega
  obtain ⟨x, hx, hxc, _, _⟩ := hq.restAt hj
  have hsec : Sect (m.rest.getD j []) := by
    have hil : j < m.rest.length := hj
    rw [List.getD_eq_getElem?_getD, List.getElem?_eq_getElem hil, Option.getD_some]
    exact hq.ok.rests _ (List.getElem_mem hil)
  obtain ⟨kq, hqe⟩ : ∃ q, pk / 8 = q := ⟨_, rfl⟩
  obtain ⟨kr, hre⟩ : ∃ r, pk % 8 = r := ⟨_, rfl⟩
  obtain ⟨y, hy⟩ : ∃ y, (m.rest.getD j [])[kq]? = some y := ⟨_, List.getElem?_eq_getElem (by rw [hsec.1]; omega)⟩
  have hy2 : y < 256 := hsec.2 y (List.mem_of_getElem? hy)
  have hm8 : kr < 8 := by omega
  have hx8 := turn_u8 y kr hy2 hm8
  have HS : Hid ((vb (m.rest.getD j [])).set kq (.int .u8 ((y ^^^ 2 ^ kr : Nat) : Int)) = vb (flipB (m.rest.getD j []) pk)) := Lib.hid (by
    rw [flipB_set (by rw [hqe]; exact hy), ← vb_set, hqe, hre])
  have HSC : Hid (Sect (flipB (m.rest.getD j []) pk)) := Lib.hid ⟨by rw [flipB_length]; exact hsec.1, flipB_lt _ hsec.2⟩
  have hqw : IntKind.i64.wrap ((pk : Int) / 8) = (kq : Int) := by rw [IntWalk.i64_in _ (by omega)]; omega
  have hrm : (pk : Int).tmod 8 = (kr : Int) := by rw [Int.tmod_eq_emod_of_nonneg (by omega)]; omega
  have hb0 : (0 : Int) ≤ (kq : Int) := by omega
  have hb1 : (kq : Int) < 64 := by omega
  have hm0 : (0 : Int) ≤ (kr : Int) := by omega
  have hwr : IntKind.u64.wrap (kr : Int) = (kr : Int) := by rw [IntKind.wrap_u64]; omega
  have hb := (hq.rb j x hx).2
  have hbc : w.cell? ⟨x.1, kq, none⟩ = some (.int .u8 (y : Int)) := by
    rw [World.ownsRow.cellAt (g := x.1) (cap := x.2) hb kq (by omega), vb_get, hy]
    rfl
  have hbf : w.frozen? ⟨x.1, kq, none⟩ = false := World.ownsRow.frozenAt (g := x.1) (cap := x.2) hb kq
  have hbl := hb.lt
  obtain ⟨⟨d0, _⟩, _⟩ := hq.head.cells
  have hsz := hq.head.n1.2
  have hpx := (hq.rb j x hx).1
  unfold slV at hxc
  have d0 : w.drew.cell? ⟨d, 0, none⟩ = some (.slice (some ⟨q.gr, 0, none⟩) m.size q.cr) := d0
  have hxc : w.drew.cell? ⟨q.gr, j, none⟩ = some (.slice (some ⟨x.1, 0, none⟩) 64 x.2) := hxc
  have hbc : w.drew.cell? ⟨x.1, kq, none⟩ = some (.int .u8 (y : Int)) := hbc
  have hbf : w.drew.frozen? ⟨x.1, kq, none⟩ = false := hbf
  have hbl : x.1 < w.drew.heap.size := hbl
  have HX := Lib.hid hx
  have HJ := Lib.hid hj
  have HPX := Lib.hid hpx
  clear hh hs hs' hq hlt hx hsec hy hqe hre hb hpx hpk
  go_enter Try.func26, Try.ntmps26
  go_wp2_with fail
  refine HH.out.mono ?_
  rintro e w1 ⟨rfl, rfl⟩
  go_wp2_with fail
  refine still_tail 26 (by kernel_rfl) (by kernel_rfl) ?_
  simp only [List.take_succ_cons, List.take_zero, List.drop_succ_cons, List.drop_zero]
  have HQd := Lib.hid (HQ.out.ext (Ext.refl w).drew)
  have HMd : Hid (Mod (fun k => p k ≠ 0) w w.drew) := Lib.hid (Mod.drew (Mod.refl _ _))
  have HLd : Hid (∀ k, p k ≠ 0 → k < w.drew.heap.size) := HLT
  generalize w.drew = w2 at *
  still_step
  still_step
  still_step
  still_step
  still_step
  still_step
  still_step
  still_step
  still_step
  still_step
  still_step
  still_step
  still_step
  still_step
  still_step
  still_step
  still_step
  still_step
  still_step
  still_step
  still_step
  still_step
  still_step
  still_step
  still_step
  still_step
  refine wpStill_nil ?_
  go_wp2_with (rw [hx8])
  go_ret
  rw [HE.out]
  exact ⟨rfl, p, ⟨⟨q, HQd.out.setByte HJ.out HX.out HSC.out HS.out⟩, fun i hi => by have := HLd.out i hi; simpa [World.setCell] using this⟩, HMd.out.trans (mod_one w2 x.1 kq (.int .u8 ((y ^^^ 2 ^ kr : Nat) : Int))) (fun i hi => .inl (by rw [hi, HPX.out]; omega)), fun k hk => .inl hk⟩
end Go.Proofs.Ytldgamgdbneneaa
