/-
  The contracts of the disk's small functions: made, known, running, Size, Waits, Up.
  The contracts of the disk's running, Size, Waits, Up, Power, Start, draw; and of those at a disk that nobody made.
  The contracts of the disk's draw, Power, Start, New.
-/
import Derived.Test.YtlikhmhomkiadaaDoorQ03
import Derived.WalkKit
import Derived.WalkSpells
import Derived.WalkLawsBesides
import Derived.BigQuiet
import Derived.Deep.QuietTactic
import Derived.Lib.Hide
import Derived.Outline
import Derived.LaidEqlPtr
namespace Go.Proofs.YtlikhmhomkiadaaDoor
set_option maxRecDepth 100000
open Go Go.RowKit

theorem eql_self (a : Addr) (w : World) : (binOp .eql 42 (.pointer (some a)) (.pointer (some a))).run Tryd.prog w = .ok (.bool true) w := by
  have hi : (Tryd.prog.info? 75).isSome = true := by kernel_rfl
  obtain ⟨j, hj⟩ := Option.isSome_iff_exists.1 hi
  exact run_eql_ptr_same w a Tryd.underlying42 hj
theorem eql_nil_some (a : Addr) (w : World) : (binOp .eql 42 (.pointer none) (.pointer (some a))).run Tryd.prog w = .ok (.bool false) w := by
  have h : ∀ d : Nat, (Op.equalIn (d + 1) 42 (.pointer none) (.pointer (some a))).run Tryd.prog w = .ok false w := fun d => by
    simp [Op.equalIn, run_underlying Tryd.underlying42]
  simp only [binOp]
  simp [Op.equal, Op.maxDepth, h 9999]
set_option maxRecDepth 100000 in
set_option maxHeartbeats 400000 in
theorem made_yes (d : Nat) (w : World) (h : w.cell? ⟨d, 0, none⟩ = some (.pointer (some ⟨d, 0, none⟩))) :
    Calls Tryd.prog 37 #[.pointer (some ⟨d, 0, none⟩)] w fun e w' => e = .returned (.bool true) ∧ w = w' := by
  have he := eql_self
  go_enter Tryd.func37, Tryd.ntmps37
  go_wp2
  go_ret
  exact ⟨rfl, rfl⟩
/-- A pointer to no disk that New returned: nil, or to one whose first cell is nil. -/
def Unmade (w : World) (p : Option Addr) : Prop := p = none ∨ ∃ d, p = some ⟨d, 0, none⟩ ∧ w.cell? ⟨d, 0, none⟩ = some (.pointer none)
set_option maxRecDepth 100000 in
set_option maxHeartbeats 400000 in
theorem made_no (p : Option Addr) (w : World) (h : Unmade w p) :
    Calls Tryd.prog 37 #[.pointer p] w fun e w' => e = .returned (.bool false) ∧ w = w' := by
  rcases h with rfl | ⟨d, rfl, h⟩
  · go_enter Tryd.func37, Tryd.ntmps37
    go_wp2
    go_ret
    exact ⟨rfl, rfl⟩
  · have he := eql_nil_some
    go_enter Tryd.func37, Tryd.ntmps37
    go_wp2
    go_ret
    exact ⟨rfl, rfl⟩

/-- Are these numbers of sectors of a disk of n? -/
def knownE (n : Nat) (zs : List Int) : Int := if ∀ z ∈ zs, 0 ≤ z ∧ z < (n : Int) then 0 else 2
set_option maxRecDepth 100000 in
set_option maxHeartbeats 1600000 in
theorem known_yes (d g n : Nat) (A : Option Addr) (k c : Nat) (zs : List Int) (w : World) (h : w.cell? ⟨d, 0, none⟩ = some (.pointer (some ⟨d, 0, none⟩))) (h3 : w.cell? ⟨d, 3, none⟩ = some (.slice (some ⟨g, 0, none⟩) n n))
    (hk : zs.length = k) (hk2 : k ≤ 1000) (hz : 0 < k → ∃ b, A = some ⟨b, 0, none⟩ ∧ ∀ (j : Nat) (z : Int), zs[j]? = some z → w.cell? ⟨b, j, none⟩ = some (.int .i64 z)) :
    Calls Tryd.prog 39 #[.pointer (some ⟨d, 0, none⟩), .slice A k c] w fun e w' => e = .returned (.int .i64 (knownE n zs)) ∧ w = w' := by
  have HK := Lib.hid hk
  have HZ := Lib.hid hz
  clear hk hz
  go_enter Tryd.func39, Tryd.ntmps39
  go_wp2_with fail
  refine (made_yes d _ h).mono ?_
  rintro e w1 ⟨rfl, rfl⟩
  go_wp2_with fail
  go_loopw [12] (fun i wr => ∃ j : Nat, j ≤ k ∧ i = .int .i64 j ∧ w = wr ∧ ∀ z ∈ zs.take j, 0 ≤ z ∧ z < (n : Int)) (fun i _ => k - (intOf i).toNat)
  case atStart => exact ⟨0, Nat.zero_le _, rfl, rfl, by simp⟩
  case round =>
    obtain ⟨j, hj, rfl, rfl, hall⟩ := hrel
    have HA := Lib.hid hall
    clear hall
    by_cases hlt : j < k
    · obtain ⟨b, rfl, hc⟩ := HZ.out (by omega)
      obtain ⟨z, hzj⟩ : ∃ z, zs[j]? = some z := ⟨_, List.getElem?_eq_getElem (by rw [HK.out]; exact hlt)⟩
      have hcz := hc j z hzj
      have HJ := Lib.hid hzj
      clear hc hzj
      have no : ¬ (0 ≤ z ∧ z < (n : Int)) → Ending.returned (Value.int .i64 2) = .returned (.int .i64 (knownE n zs)) := fun hn => by
        have hm : z ∈ zs := List.mem_of_getElem? HJ.out
        unfold knownE
        rw [if_neg fun ha => hn (ha z hm)]
      have HNO := Lib.hid no
      clear no
      by_cases h0 : z < 0
      · go_wp2_with fail
        go_ret
        exact ⟨HNO.out (by omega), rfl⟩
      · by_cases h1 : (n : Int) ≤ z
        · go_wp2_with fail
          go_ret
          exact ⟨HNO.out (by omega), rfl⟩
        · go_wp2_with fail
          go_roundw
          case rel => exact ⟨j + 1, by omega, by go_num, trivial, fun y hy => by
            rw [List.take_add_one, HJ.out] at hy
            rcases List.mem_append.1 hy with hy | hy
            · exact HA.out y hy
            · simp at hy; subst hy; omega⟩
          case measure => simp [intOf]; omega
    · have HF : Hid (knownE n zs = 0) := Lib.hid (by
        have := HA.out
        rw [List.take_of_length_le (by rw [HK.out]; omega)] at this
        unfold knownE
        rw [if_pos this])
      go_wp2_with fail
      go_ret
      exact ⟨by rw [HF.out]; rfl, rfl⟩
end Go.Proofs.YtlikhmhomkiadaaDoor

namespace Go.Proofs.YtlikhmhomkiadaaDoor
set_option maxRecDepth 100000
open Go Go.RowKit

/-- Where the numbers of sectors lie. -/
def ZsAt (w : World) (A : Option Addr) (k : Nat) (zs : List Int) : Prop := zs.length = k ∧ k ≤ 1000 ∧ (0 < k → ∃ b, A = some ⟨b, 0, none⟩ ∧ ∀ (j : Nat) (z : Int), zs[j]? = some z → w.cell? ⟨b, j, none⟩ = some (.int .i64 z))
theorem ZsAt.nil_ (w : World) : ZsAt w none 0 [] := ⟨rfl, by omega, fun h => absurd h (by omega)⟩
def runE (m : DM) (zs : List Int) : Int := if m.up = false then 5 else knownE m.size zs
theorem known_of {w : World} {d g : Nat} {pv : Value} {m : DM} (h : PD w d g pv m) (A : Option Addr) (k c : Nat) (zs : List Int) (hz : ZsAt w A k zs) :
    Calls Tryd.prog 39 #[.pointer (some ⟨d, 0, none⟩), .slice A k c] w fun e w' => e = .returned (.int .i64 (knownE m.size zs)) ∧ w = w' :=
  known_yes d g m.size A k c zs w h.cells.1.1 h.cells.1.2.2.2.1 hz.1 hz.2.1 hz.2.2

set_option maxRecDepth 100000 in
set_option maxHeartbeats 800000 in
theorem running_of {w : World} {d g : Nat} {pv : Value} {m : DM} (h : PD w d g pv m) (A : Option Addr) (k c : Nat) (zs : List Int) (hz : ZsAt w A k zs) :
    Calls Tryd.prog 32 #[.pointer (some ⟨d, 0, none⟩), .slice A k c] w fun e w' => e = .returned (.int .i64 (runE m zs)) ∧ w = w' := by
  have H := Lib.hid h
  have HZ := Lib.hid hz
  obtain ⟨⟨c0, c1, _, _, _⟩, _⟩ := h.cells
  have HE : Hid (runE m zs = if m.up = false then 5 else knownE m.size zs) := Lib.hid rfl
  by_cases hu : m.up = true
  · have hs : (stOf m != 0) = false := by rw [stOf_up hu]; rfl
    have HE : Hid (runE m zs = knownE m.size zs) := Lib.hid (by rw [HE.out, if_neg (by rw [hu]; simp)])
    clear h hz hu
    generalize stOf m = st at *
    go_enter Tryd.func32, Tryd.ntmps32
    go_wp2_with fail
    refine (made_yes d _ c0).mono ?_
    rintro e w1 ⟨rfl, rfl⟩
    go_wp2_with fail
    refine (known_of H.out A k c zs HZ.out).mono ?_
    rintro e w1 ⟨rfl, rfl⟩
    go_wp2_with fail
    go_ret
    exact ⟨by rw [HE.out]; rfl, rfl⟩
  · have hu' : m.up = false := by simpa using hu
    have hs : (stOf m != 0) = true := by simpa using stOf_not hu'
    have HE : Hid (runE m zs = 5) := Lib.hid (by rw [HE.out, if_pos hu'])
    clear h hz hu hu'
    generalize stOf m = st at *
    go_enter Tryd.func32, Tryd.ntmps32
    go_wp2_with fail
    refine (made_yes d _ c0).mono ?_
    rintro e w1 ⟨rfl, rfl⟩
    go_wp2_with fail
    go_ret
    exact ⟨by rw [HE.out]; rfl, rfl⟩

set_option maxRecDepth 100000 in
set_option maxHeartbeats 800000 in
theorem size_of {w : World} {d g : Nat} {pv : Value} {m : DM} (h : PD w d g pv m) :
    Calls Tryd.prog 55 #[.pointer (some ⟨d, 0, none⟩)] w fun e w' => e = .returned (.int .i64 (m.size : Nat)) ∧ w = w' := by
  obtain ⟨⟨c0, _, _, c3, _⟩, _⟩ := h.cells
  clear h
  generalize m.size = n at *
  go_enter Tryd.func55, Tryd.ntmps55
  go_wp2_with fail
  refine (made_yes d _ c0).mono ?_
  rintro e w1 ⟨rfl, rfl⟩
  go_wp2_with fail
  go_ret
  exact ⟨rfl, rfl⟩
/-- The slice of the pending writes. -/
theorem PD.pv_form {w : World} {d g : Nat} {pv : Value} {m : DM} (h : PD w d g pv m) : ∃ A c, pv = .slice A m.waits.length c ∧ m.waits.length ≤ c ∧ c ≤ 9223372036854775807 := by
  rcases h.pen.2 with ⟨e, h0⟩ | ⟨g, cap, cur, rfl, _, _, h1, h2, _⟩
  · exact ⟨none, 0, by rw [h0]; exact e, by omega, by omega⟩
  · unfold maxLen at h2
    exact ⟨_, cap, rfl, h1, h2⟩
set_option maxRecDepth 100000 in
set_option maxHeartbeats 800000 in
theorem up_of {w : World} {d g : Nat} {pv : Value} {m : DM} (h : PD w d g pv m) :
    Calls Tryd.prog 57 #[.pointer (some ⟨d, 0, none⟩)] w fun e w' => e = .returned (.bool m.up) ∧ w = w' := by
  have hr := running_of h none 0 0 [] (ZsAt.nil_ w)
  have HR := Lib.hid hr
  have HE : Hid (decide (runE m [] = 0) = m.up) := Lib.hid (by
    unfold runE knownE
    cases m.up <;> simp)
  clear h hr
  go_enter Tryd.func57, Tryd.ntmps57
  go_wp2_with fail
  refine HR.out.mono ?_
  rintro e w1 ⟨rfl, rfl⟩
  generalize runE m [] = z at *
  go_wp2_with fail
  go_ret
  exact ⟨by rw [← HE.out]; by_cases hz : z = 0 <;> simp [hz], rfl⟩

/-- At a disk that nobody made. -/
theorem known_no (p : Option Addr) (A : Option Addr) (k c : Nat) (w : World) (h : Unmade w p) :
    Calls Tryd.prog 39 #[.pointer p, .slice A k c] w fun e w' => e = .returned (.int .i64 1) ∧ w = w' := by
  have H := Lib.hid h
  clear h
  go_enter Tryd.func39, Tryd.ntmps39
  go_wp2_with fail
  refine (made_no p _ H.out).mono ?_
  rintro e w1 ⟨rfl, rfl⟩
  go_wp2_with fail
  go_ret
  exact ⟨rfl, rfl⟩
theorem running_no (p : Option Addr) (A : Option Addr) (k c : Nat) (w : World) (h : Unmade w p) :
    Calls Tryd.prog 32 #[.pointer p, .slice A k c] w fun e w' => e = .returned (.int .i64 1) ∧ w = w' := by
  have H := Lib.hid h
  clear h
  go_enter Tryd.func32, Tryd.ntmps32
  go_wp2_with fail
  refine (made_no p _ H.out).mono ?_
  rintro e w1 ⟨rfl, rfl⟩
  go_wp2_with fail
  refine (known_no p _ _ _ _ H.out).mono ?_
  rintro e w1 ⟨rfl, rfl⟩
  go_wp2_with fail
  go_ret
  exact ⟨rfl, rfl⟩
theorem size_no (p : Option Addr) (w : World) (h : Unmade w p) : Calls Tryd.prog 55 #[.pointer p] w fun e w' => e = .returned (.int .i64 0) ∧ w = w' := by
  have H := Lib.hid h
  clear h
  go_enter Tryd.func55, Tryd.ntmps55
  go_wp2_with fail
  refine (made_no p _ H.out).mono ?_
  rintro e w1 ⟨rfl, rfl⟩
  go_wp2_with fail
  go_ret
  exact ⟨rfl, rfl⟩
theorem up_no (p : Option Addr) (w : World) (h : Unmade w p) : Calls Tryd.prog 57 #[.pointer p] w fun e w' => e = .returned (.bool false) ∧ w = w' := by
  have H := Lib.hid h
  clear h
  go_enter Tryd.func57, Tryd.ntmps57
  go_wp2_with fail
  refine (running_no p _ _ _ _ H.out).mono ?_
  rintro e w1 ⟨rfl, rfl⟩
  go_wp2_with fail
  go_ret
  exact ⟨rfl, rfl⟩
end Go.Proofs.YtlikhmhomkiadaaDoor

namespace Go.Proofs.YtlikhmhomkiadaaDoor
set_option maxRecDepth 100000
open Go Go.RowKit

/-- The head of a disk. -/
def HeadAt (w : World) (d : Nat) (x0 : Value) (st p : Int) (x3 x4 : Value) : Prop := w.heap[d]? = some (.cells #[x0, .int .u8 st, .int .i64 p, x3, x4] 75 (0, 0))
theorem PD.headAt {w : World} {d g : Nat} {pv : Value} {m : DM} (h : PD w d g pv m) : HeadAt w d (.pointer (some ⟨d, 0, none⟩)) (stOf m) m.power (.slice (some ⟨g, 0, none⟩) m.size m.size) pv := h.head
/-- The disk with another head: what else it holds is as it was. -/
theorem PD.head_turned {w w' : World} {d g : Nat} {pv : Value} {m : DM} (h : PD w d g pv m) (k : Mod (fun i => i = d) w w') (st p : Int) (hh : HeadAt w' d (.pointer (some ⟨d, 0, none⟩)) st p (.slice (some ⟨g, 0, none⟩) m.size m.size) pv)
    (m' : DM) (hok : m'.Ok) (h1 : m'.rest = m.rest) (h2 : m'.meant = m.meant) (h3 : m'.lost = m.lost) (h4 : m'.waits = m.waits) (hs : stOf m' = st) (hp : m'.power = p) (ht : p ≤ 9223372036854775807) : PD w' d g pv m' := by
  have hz : m'.size = m.size := by unfold DM.size; rw [h1]
  refine ⟨hok, by rw [hz]; exact h.n1, by rw [hp]; exact ht, by rw [hs, hp, hz]; exact hh, ?_, ?_, h.dg, h.pd⟩
  · obtain ⟨cur, c1, c2, c3⟩ := h.med.mod k (fun e => h.dg e.symm)
    exact ⟨cur, c1, by rw [hz]; exact c2, fun s hs j v hv => c3 s (by rw [← hz]; exact hs) j v (by unfold DM.sec at hv ⊢; rw [h1, h2, h3] at hv; exact hv)⟩
  · rw [h4]
    exact own_mod h.pen k fun i hi => (h.pd i hi).1

theorem Mod.own_cell {d : Nat} {a b : World} (h : Mod (fun i => i = d) a b) (k : Nat) (v : Value) : Mod (fun i => i = d) a (b.setCell ⟨d, k, none⟩ v) := h.setCell (p := ⟨d, k, none⟩) (.inl rfl) v
def drawE (p : Int) : Int := if p = 0 then 5 else 0
def drawS (p st : Int) : Int := if p = 0 then 1 else st
set_option maxRecDepth 100000 in
set_option maxHeartbeats 800000 in
theorem draw_of {w : World} {d : Nat} {x0 x3 x4 : Value} {st p : Int} (h : HeadAt w d x0 st p x3 x4) (hp : -1 ≤ p) (hp2 : p ≤ 9223372036854775807) :
    Calls Tryd.prog 73 #[.pointer (some ⟨d, 0, none⟩)] w fun e w' => e = .returned (.int .i64 (drawE p)) ∧ HeadAt w' d x0 (drawS p st) (lessP p) x3 x4 ∧ Mod (fun i => i = d) w w' := by
  obtain ⟨⟨c0, c1, c2, c3, c4⟩, f0, f1, f2, f3, f4⟩ := cells5 h
  have H := Lib.hid h
  clear h
  by_cases h1 : p = -1
  · subst h1
    go_enter Tryd.func73, Tryd.ntmps73
    go_wp2_with fail
    go_ret
    exact ⟨rfl, H.out, Mod.refl _ _⟩
  · by_cases h0 : p = 0
    · subst h0
      go_enter Tryd.func73, Tryd.ntmps73
      go_wp2_with fail
      go_ret
      exact ⟨rfl, row_set 1 H.out _ rfl, (Mod.refl _ _).own_cell _ _⟩
    · have g1 : (p == -1) = false := by simpa using h1
      have g0 : (p == 0) = false := by simpa using h0
      have HL : Hid (lessP p = p - 1) := Lib.hid (by unfold lessP; rw [if_pos (by omega)])
      have HI : Hid (drawE p = 0 ∧ drawS p st = st) := Lib.hid ⟨if_neg h0, if_neg h0⟩
      clear h0 h1
      go_enter Tryd.func73, Tryd.ntmps73
      go_wp2_with fail
      go_ret
      exact ⟨by rw [HI.out.1]; rfl, by rw [HI.out.2, HL.out]; exact row_set 2 H.out _ rfl, (Mod.refl _ _).own_cell _ _⟩

set_option maxRecDepth 100000 in
set_option maxHeartbeats 800000 in
theorem power_of {w : World} {d g : Nat} {pv : Value} {m : DM} (h : PD w d g pv m) (n : Int) (hn : n ≤ 9223372036854775807) :
    Calls Tryd.prog 17 #[.pointer (some ⟨d, 0, none⟩), .int .i64 n] w fun e w' => e = .returned (.int .i64 (m.setPower n).1) ∧ PD w' d g pv (m.setPower n).2 ∧ Mod (fun i => i = d) w w' := by
  have hr := running_of h none 0 0 [] (ZsAt.nil_ w)
  have HR := Lib.hid hr
  have H := Lib.hid h
  have HE : Hid (runE m [] = if m.up = false then 5 else 0) := Lib.hid (by
    unfold runE knownE
    simp)
  have HP : Hid (m.setPower n = if m.up = false then (5, m) else if n < 0 then (2, m) else (0, { m with power := n })) := Lib.hid rfl
  have HO := Lib.hid (DM.setPower_ok h.ok n)
  obtain ⟨⟨c0, c1, c2, c3, c4⟩, f0, f1, f2, f3, f4⟩ := h.cells
  clear h hr
  by_cases hu : m.up = false
  · have HE : Hid (runE m [] = 5) := Lib.hid (by rw [HE.out, if_pos hu])
    have HP : Hid (m.setPower n = (5, m)) := Lib.hid (by rw [HP.out, if_pos hu])
    clear hu
    go_enter Tryd.func17, Tryd.ntmps17
    go_wp2_with fail
    refine HR.out.mono ?_
    rw [HE.out]
    rintro e w1 ⟨rfl, rfl⟩
    go_wp2_with fail
    go_ret
    exact ⟨by rw [HP.out]; rfl, by rw [HP.out]; exact H.out, Mod.refl _ _⟩
  · have HE : Hid (runE m [] = 0) := Lib.hid (by rw [HE.out, if_neg hu])
    by_cases hn0 : n < 0
    · have HP : Hid (m.setPower n = (2, m)) := Lib.hid (by rw [HP.out, if_neg hu, if_pos hn0])
      clear hu
      go_enter Tryd.func17, Tryd.ntmps17
      go_wp2_with fail
      refine HR.out.mono ?_
      rw [HE.out]
      rintro e w1 ⟨rfl, rfl⟩
      go_wp2_with fail
      go_ret
      exact ⟨by rw [HP.out]; rfl, by rw [HP.out]; exact H.out, Mod.refl _ _⟩
    · have HP : Hid (m.setPower n = (0, { m with power := n })) := Lib.hid (by rw [HP.out, if_neg hu, if_neg hn0])
      clear hu
      go_enter Tryd.func17, Tryd.ntmps17
      go_wp2_with fail
      refine HR.out.mono ?_
      rw [HE.out]
      rintro e w1 ⟨rfl, rfl⟩
      go_wp2_with fail
      go_ret
      have hm : Mod (fun i => i = d) w (w.setCell ⟨d, 2, none⟩ (.int .i64 n)) := (Mod.refl _ _).own_cell _ _
      refine ⟨by rw [HP.out]; rfl, ?_, hm⟩
      exact H.out.head_turned hm (stOf m) n (row_set 2 H.out.head _ rfl) _ HO.out (by rw [HP.out]) (by rw [HP.out]) (by rw [HP.out]) (by rw [HP.out]) (by rw [HP.out]; rfl) (by rw [HP.out]) hn

set_option maxRecDepth 100000 in
set_option maxHeartbeats 800000 in
theorem start_of {w : World} {d g : Nat} {pv : Value} {m : DM} (h : PD w d g pv m) :
    Calls Tryd.prog 22 #[.pointer (some ⟨d, 0, none⟩)] w fun e w' => e = .returned (.int .i64 m.start.1) ∧ PD w' d g pv m.start.2 ∧ Mod (fun i => i = d) w w' := by
  have H := Lib.hid h
  have HP : Hid (m.start = if m.down = false then (2, m) else (0, { m with down := false, dead := false, power := -1 })) := Lib.hid rfl
  have HO := Lib.hid (DM.start_ok h.ok)
  have hst := stOf_down (m := m)
  obtain ⟨⟨c0, c1, c2, c3, c4⟩, f0, f1, f2, f3, f4⟩ := h.cells
  clear h
  by_cases hd : m.down = true
  · rw [hst.2 hd] at c1
    have HP : Hid (m.start = (0, { m with down := false, dead := false, power := -1 })) := Lib.hid (by rw [HP.out, if_neg (by rw [hd]; simp)])
    clear hd hst
    go_enter Tryd.func22, Tryd.ntmps22
    go_wp2_with fail
    refine (made_yes d _ c0).mono ?_
    rintro e w1 ⟨rfl, rfl⟩
    go_wp2_with fail
    go_ret
    have hm : Mod (fun i => i = d) w ((w.setCell ⟨d, 1, none⟩ (.int .u8 0)).setCell ⟨d, 2, none⟩ (.int .i64 (-1))) := ((Mod.refl _ _).own_cell _ _).own_cell _ _
    refine ⟨by rw [HP.out]; rfl, ?_, hm⟩
    exact H.out.head_turned hm 0 (-1) (row_set 2 (row_set 1 H.out.head _ rfl) _ rfl) _ HO.out (by rw [HP.out]) (by rw [HP.out]) (by rw [HP.out]) (by rw [HP.out]) (by rw [HP.out]; rfl) (by rw [HP.out]) (by omega)
  · have hs : (stOf m == 2) = false := by
      have : ¬ stOf m = 2 := fun e => hd (hst.1 e)
      simpa using this
    have hs2 : (stOf m != 2) = true := by
      have : ¬ stOf m = 2 := fun e => hd (hst.1 e)
      simpa using this
    have HP : Hid (m.start = (2, m)) := Lib.hid (by rw [HP.out, if_pos (by simpa using hd)])
    clear hd hst
    generalize stOf m = st at *
    go_enter Tryd.func22, Tryd.ntmps22
    go_wp2_with fail
    refine (made_yes d _ c0).mono ?_
    rintro e w1 ⟨rfl, rfl⟩
    go_wp2_with fail
    go_ret
    exact ⟨by rw [HP.out]; rfl, by rw [HP.out]; exact H.out, Mod.refl _ _⟩
end Go.Proofs.YtlikhmhomkiadaaDoor
