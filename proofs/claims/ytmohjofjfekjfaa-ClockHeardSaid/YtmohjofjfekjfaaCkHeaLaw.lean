/-
  One that hears of a leader within each patience never stands; nor does one that leads: the law's walk.
-/
import Derived.Test.YtmohjofjfekjfaaCkOftLaw
import Derived.Test.YtmohjofjfekjfaaCkTy
namespace Go.Proofs.Ytmohjofjfekjfaa
open Go Go.RowKit

theorem Rd.getC {w : World} {B : Nat} {A : Option Addr} {n c : Nat} {l : List Nat} (h : Bs w B A n c l) {j : Nat} (hj : j < n) : ∃ g o b, A = some ⟨g, o, none⟩ ∧ g < B ∧ b < 256 ∧ l[j]? = some b ∧ w.cell? ⟨g, o + j, none⟩ = some (.int .u8 (b : Int)) := by
  have hl : j < l.length := by rw [h.len]; exact hj
  obtain ⟨g, o, e, hg, hc⟩ := h.rd.2 (by omega)
  exact ⟨g, o, l[j], e, hg, h.rd.1 _ (List.getElem_mem hl), List.getElem?_eq_getElem hl, hc j _ (List.getElem?_eq_getElem hl)⟩
theorem Vs.getC {w : World} {B : Nat} {A : Option Addr} {n c : Nat} {l : List Bool} (h : Vs w B A n c (l.map .bool)) {j : Nat} (hj : j < n) : ∃ g o b, A = some ⟨g, o, none⟩ ∧ g < B ∧ w.cell? ⟨g, o + j, none⟩ = some (.bool b) := by
  have hl : j < l.length := by have := h.len; rw [List.length_map] at this; omega
  obtain ⟨g, o, e, hg, hc⟩ := h.rd (by omega)
  exact ⟨g, o, l[j], e, hg, hc j _ (by rw [List.getElem?_map, List.getElem?_eq_getElem hl]; rfl)⟩
set_option maxRecDepth 100000 in
set_option maxHeartbeats 3200000 in
theorem clockHeard_law (r : Int) (A : Option Addr) (n c : Nat) (l : List Nat) (A2 : Option Addr) (n2 c2 : Nat) (l2 : List Bool) (w : World) (_ : (Lit.int .i64 r).wf = true) (hb : Bs w w.heap.size A n c l) (hv : Vs w w.heap.size A2 n2 c2 (l2.map .bool)) :
    Calls Try.prog 6 #[.int .i64 r, .slice A n c, .slice A2 n2 c2] w fun e w' => e = .returned (.bool true) ∧ Below w.heap.size w w' := by
  show Calls Try.prog 6 #[.int .i64 r, .slice A n c, .slice A2 n2 c2] w fun e w' => e = .returned (.bool true) ∧ Ext w w'
  have hnc := hb.cap
  have hnm := hb.most
  have hnc2 := hv.cap
  have hnm2 := hv.most
  have HB := Lib.hid hb
  have HV := Lib.hid hv
  clear hb hv
  go_enter Try.func6, Try.ntmps6
  go_wp2_with fail
  refine (cawake_any _).mono ?_
  rintro r' w1 ⟨rfl, hx⟩
  have HX := Lib.hid hx
  clear hx
  by_cases hlen : 100 < n
  · have d1 : decide ((100 : Int) < (n : Int)) = true := decide_eq_true (by omega)
    have hl2 : (100 : Int) < (n : Int) := by omega
    go_wp2_with fail
    go_ret
    exact ⟨rfl, HX.out⟩
  have d1 : decide ((100 : Int) < (n : Int)) = false := decide_eq_false (by omega)
  have hl2 : ¬ (100 : Int) < (n : Int) := by omega
  go_upto_region 6 with (fail)
  obtain ⟨k, hk, hke⟩ : ∃ k : Nat, k < 7 ∧ wrap64 ((IntKind.u64.wrap r).tmod 7) = (k : Int) := wrap_modC r 7 (by decide) (by decide)
  rw [hke]
  clear hke
  go_wp2_with fail
  refine (cnew_yes k hk _).mono ?_
  rintro r' w2 ⟨rfl, z, x⟩
  have HZ : Hid (CE w w2 w1.heap.size (10 + 4 * k) 0 0) := Lib.hid ⟨z, HX.out.trans x, Ext.size HX.out⟩
  have hp := z.pat
  have HPC := Lib.hid (fun V => cpat_of (k : Int) V)
  rw [patC_in hk] at HPC
  clear z x
  obtain ⟨g, hg⟩ : ∃ g, w1.heap.size = g := ⟨_, rfl⟩
  obtain ⟨P, hP⟩ : ∃ P, 10 + 4 * k = P := ⟨_, rfl⟩
  rw [hg] at HZ ⊢
  rw [hP] at HZ HPC hp
  clear hg hP
  go_wp2_with fail
  go_loopw [9] (fun v wr => ∃ j ld : Nat, j ≤ n ∧ v = .int .i64 (j : Int) ∧ Hid (CE w wr g P 0 ld)) (fun v _ => n - (intOf v).toNat)
  case atStart => exact ⟨0, 0, by omega, rfl, HZ⟩
  case round =>
    obtain ⟨j, ld, hj, rfl, HE⟩ := hrel
    by_cases hlt : j < n
    · have hjn : (j : Int) < (n : Int) := by omega
      obtain ⟨ga, oa, b, rfl, hga, hb, -, hcb⟩ := Rd.getC (Bs.below HB.out HE.out.ext) hlt
      go_upto_region 12 with (fail)
      obtain ⟨d, hd⟩ : ∃ d, b % P = d := ⟨_, rfl⟩
      have hdP : d < P := by rw [← hd]; exact Nat.mod_lt _ (by omega)
      have hr : (IntKind.i64.wrap (b : Int)).tmod (P : Int) = (d : Int) := by
        rw [show IntKind.i64.wrap (b : Int) = (b : Int) by rw [IntKind.wrap_i64]; omega, Int.tmod_eq_emod_of_nonneg (by omega), ← hd]
        exact (Int.natCast_emod b P).symm
      have HT : Hid (∀ V, CQ V g P 0 ld → Calls Try.prog 18 #[.pointer (some ⟨g, 0, none⟩), .bool false, .int .i64 ((IntKind.i64.wrap (b : Int)).tmod (P : Int))] V fun e w' => e = .returned (.tuple #[.int .i64 0, .int .i64 0]) ∧ CQ w' g P d (offC d ld) ∧ Mod (fun k => k = g) V w') := Lib.hid fun V zV => by
        have h := cticks_wait zV d (by omega)
        rw [Nat.zero_add, Nat.div_eq_of_lt hdP, Nat.mod_eq_of_lt hdP] at h
        rw [hr]
        exact h
      have HD := Lib.hid hdP
      have HE0 : Hid (CE w wr.drew g P 0 ld) := Lib.hid ⟨HE.out.q.ext (Ext.refl wr).drew, HE.out.ext.drew, HE.out.new⟩
      have hS0 : wr.drew.cell? ⟨ga, oa + j, none⟩ = some (.int .u8 (b : Int)) := hcb
      have hgg := HE.out.new
      have hne : ¬ ga = g := by omega
      have hP0 : ¬ P = 0 := by omega
      have hP1 : ¬ (P : Int) = 0 := by omega
      clear hd hdP hgg hr
      go_region_held3 (fun w' => w'.cell? ⟨ga, oa + j, none⟩ = some (.int .u8 (b : Int)))
        (first | with_reducible exact hS0 | with_reducible exact hS4 | with_reducible assumption)
        (first
          | (go_at_call 10; ((with_reducible refine (HPC.out _).mono ?_); rintro e' w3 ⟨rfl, rfl⟩))
          | (go_at_call 18; ((with_reducible refine (HT.out _ HE0.out.q).mono ?_); rintro e' w4 ⟨rfl, z4, m4⟩; have hS4 := (World.cell?_of_block (a := ⟨ga, oa + j, none⟩) (m4.block ga (World.block_lt_of_cell? _ _ hS0) hne)).trans hS0)))
      have H4 : Hid (CE w w4 g P d (offC d ld)) := Lib.hid (HE0.out.mod z4 m4)
      clear z4 m4 hS4
      by_cases hj2 : j < n2
      · have hj2i : (j : Int) < (n2 : Int) := by omega
        obtain ⟨gv, ov, lead, rfl, hgv, hcv⟩ := Vs.getC (Vs.below HV.out H4.out.ext) hj2
        cases lead with
        | true =>
          go_wp2_with fail
          refine (ctick_lead H4.out.q).mono ?_
          rintro r' w5 ⟨rfl, z, m⟩
          have H5 : Hid (CE w w5 g P 0 ((offC d ld + 1) % 3)) := Lib.hid (H4.out.mod z m)
          clear z m
          go_wp2_with fail
          refine (csilent_of H5.out.q).mono ?_
          rintro r' w6 ⟨rfl, rfl⟩
          go_wp2_with fail
          go_roundw
          case rel => exact ⟨j + 1, _, by omega, by go_num, H5⟩
          case measure => simp [intOf]; omega
        | false =>
          go_wp2_with fail
          refine (cHear_of H4.out.q).mono ?_
          rintro r' w5 ⟨rfl, z, m⟩
          have H5 : Hid (CE w w5 g P 0 (offC d ld)) := Lib.hid (H4.out.mod z m)
          clear z m
          go_wp2_with fail
          refine (csilent_of H5.out.q).mono ?_
          rintro r' w6 ⟨rfl, rfl⟩
          go_wp2_with fail
          go_roundw
          case rel => exact ⟨j + 1, _, by omega, by go_num, H5⟩
          case measure => simp [intOf]; omega
      · have hj2i : ¬ (j : Int) < (n2 : Int) := by omega
        go_wp2_with fail
        refine (cHear_of H4.out.q).mono ?_
        rintro r' w5 ⟨rfl, z, m⟩
        have H5 : Hid (CE w w5 g P 0 (offC d ld)) := Lib.hid (H4.out.mod z m)
        clear z m
        go_wp2_with fail
        refine (csilent_of H5.out.q).mono ?_
        rintro r' w6 ⟨rfl, rfl⟩
        go_wp2_with fail
        go_roundw
        case rel => exact ⟨j + 1, _, by omega, by go_num, H5⟩
        case measure => simp [intOf]; omega
    · obtain rfl : j = n := by omega
      go_wp2_with fail
      go_ret
      exact ⟨rfl, HE.out.ext⟩
end Go.Proofs.Ytmohjofjfekjfaa
