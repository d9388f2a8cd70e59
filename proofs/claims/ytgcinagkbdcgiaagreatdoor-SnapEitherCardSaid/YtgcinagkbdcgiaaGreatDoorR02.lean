/-
  The contracts of the disk's small functions: made, known, running, Size, Waits, Up.
-/
import Derived.Test.YtgcinagkbdcgiaaGreatDoorR00
import Derived.Test.YtgcinagkbdcgiaaGreatDoorR01
import Derived.WalkKit
import Derived.WalkSpells
import Derived.WalkLawsBesides
import Derived.BigQuiet
import Derived.Deep.QuietTactic
import Derived.Lib.Hide
import Derived.Outline
import Derived.LaidEqlPtr
import Derived.Deep.WholeRow
namespace Go.Proofs.YtgcinagkbdcgiaaGreatDoor
set_option maxRecDepth 100000
section
open Go Go.RowKit
theorem eql_self (a : Addr) (w : World) : (binOp .eql 24 (.pointer (some a)) (.pointer (some a))).run Tryz.prog w = .ok (.bool true) w := by
  have hi : (Tryz.prog.info? 120).isSome = true := by kernel_rfl
  obtain ⟨j, hj⟩ := Option.isSome_iff_exists.1 hi
  exact run_eql_ptr_same w a Tryz.underlying24 hj
set_option maxHeartbeats 400000 in
theorem made_yes (d : Nat) (w : World) (h : w.cell? ⟨d, 0, none⟩ = some (.pointer (some ⟨d, 0, none⟩))) :
    Calls Tryz.prog 82 #[.pointer (some ⟨d, 0, none⟩)] w fun e w' => e = .returned (.bool true) ∧ w = w' := by
  have he := eql_self
  go_enter Tryz.func82, Tryz.ntmps82
  go_wp2
  go_ret
  exact ⟨rfl, rfl⟩
def knownE (n : Nat) (zs : List Int) : Int := if ∀ z ∈ zs, 0 ≤ z ∧ z < (n : Int) then 0 else 2
set_option maxHeartbeats 1600000 in
theorem known_yes (d g n : Nat) (A : Option Addr) (k c : Nat) (zs : List Int) (w : World) (h : w.cell? ⟨d, 0, none⟩ = some (.pointer (some ⟨d, 0, none⟩))) (h3 : w.cell? ⟨d, 3, none⟩ = some (.slice (some ⟨g, 0, none⟩) n n))
    (hk : zs.length = k) (hk2 : k ≤ 1000) (hz : 0 < k → ∃ b, A = some ⟨b, 0, none⟩ ∧ ∀ (j : Nat) (z : Int), zs[j]? = some z → w.cell? ⟨b, j, none⟩ = some (.int .i64 z)) :
    Calls Tryz.prog 126 #[.pointer (some ⟨d, 0, none⟩), .slice A k c] w fun e w' => e = .returned (.int .i64 (knownE n zs)) ∧ w = w' := by
  have HK := Lib.hid hk
  have HZ := Lib.hid hz
  clear hk hz
  go_enter Tryz.func126, Tryz.ntmps126
  go_wp2_with fail
  refine (made_yes d _ h).mono ?_
  rintro e w1 ⟨rfl, rfl⟩
  go_wp2_with fail
  go_loopw [12] (fun i wr => ∃ j : Nat, j ≤ k ∧ i = .int .i64 j ∧ w = wr ∧ ∀ z ∈ zs.take j, 0 ≤ z ∧ z < (n : Int)) (fun i _ => k - (intOf i).toNat)
  case atStart => exact ⟨0, Nat.zero_le _, rfl, rfl, by simp⟩
  case round =>
    obtain ⟨j, hj, rfl, rfl, hall⟩ := hrel
    have HA := Lib.hid hall
    clear hall
    by_cases hlt : j < k
    · obtain ⟨b, rfl, hc⟩ := HZ.out (by omega)
      obtain ⟨z, hzj⟩ : ∃ z, zs[j]? = some z := ⟨_, List.getElem?_eq_getElem (by rw [HK.out]; exact hlt)⟩
      have hcz := hc j z hzj
      have HJ := Lib.hid hzj
      clear hc hzj
      have no : ¬ (0 ≤ z ∧ z < (n : Int)) → Ending.returned (Value.int .i64 2) = .returned (.int .i64 (knownE n zs)) := fun hn => by
        have hm : z ∈ zs := List.mem_of_getElem? HJ.out
        unfold knownE
        rw [if_neg fun ha => hn (ha z hm)]
      have HNO := Lib.hid no
      clear no
      by_cases h0 : z < 0
      · go_wp2_with fail
        go_ret
        exact ⟨HNO.out (by omega), rfl⟩
      · by_cases h1 : (n : Int) ≤ z
        · go_wp2_with fail
          go_ret
          exact ⟨HNO.out (by omega), rfl⟩
        · go_wp2_with fail
          go_roundw
          case rel => exact ⟨j + 1, by omega, by go_num, trivial, fun y hy => by
            rw [List.take_add_one, HJ.out] at hy
            rcases List.mem_append.1 hy with hy | hy
            · exact HA.out y hy
            · simp at hy; subst hy; omega⟩
          case measure => simp [intOf]; omega
    · have HF : Hid (knownE n zs = 0) := Lib.hid (by
        have := HA.out
        rw [List.take_of_length_le (by rw [HK.out]; omega)] at this
        unfold knownE
        rw [if_pos this])
      go_wp2_with fail
      go_ret
      exact ⟨by rw [HF.out]; rfl, rfl⟩
end
section
open Go Go.RowKit
def ZsAt (w : World) (A : Option Addr) (k : Nat) (zs : List Int) : Prop := zs.length = k ∧ k ≤ 1000 ∧ (0 < k → ∃ b, A = some ⟨b, 0, none⟩ ∧ ∀ (j : Nat) (z : Int), zs[j]? = some z → w.cell? ⟨b, j, none⟩ = some (.int .i64 z))
theorem ZsAt.nil_ (w : World) : ZsAt w none 0 [] := ⟨rfl, by omega, fun h => absurd h (by omega)⟩
def runE (m : DM) (zs : List Int) : Int := if m.up = false then 5 else knownE m.size zs
theorem known_of {w : World} {d g : Nat} {pv : Value} {m : DM} (h : PD w d g pv m) (A : Option Addr) (k c : Nat) (zs : List Int) (hz : ZsAt w A k zs) :
    Calls Tryz.prog 126 #[.pointer (some ⟨d, 0, none⟩), .slice A k c] w fun e w' => e = .returned (.int .i64 (knownE m.size zs)) ∧ w = w' :=
  known_yes d g m.size A k c zs w h.cells.1.1 h.cells.1.2.2.2.1 hz.1 hz.2.1 hz.2.2
set_option maxHeartbeats 800000 in
theorem running_of {w : World} {d g : Nat} {pv : Value} {m : DM} (h : PD w d g pv m) (A : Option Addr) (k c : Nat) (zs : List Int) (hz : ZsAt w A k zs) :
    Calls Tryz.prog 114 #[.pointer (some ⟨d, 0, none⟩), .slice A k c] w fun e w' => e = .returned (.int .i64 (runE m zs)) ∧ w = w' := by
  have H := Lib.hid h
  have HZ := Lib.hid hz
  obtain ⟨⟨c0, c1, _, _, _⟩, _⟩ := h.cells
  have HE : Hid (runE m zs = if m.up = false then 5 else knownE m.size zs) := Lib.hid rfl
  by_cases hu : m.up = true
  · have hs : (stOf m != 0) = false := by rw [stOf_up hu]; rfl
    have HE : Hid (runE m zs = knownE m.size zs) := Lib.hid (by rw [HE.out, if_neg (by rw [hu]; simp)])
    clear h hz hu
    generalize stOf m = st at *
    go_enter Tryz.func114, Tryz.ntmps114
    go_wp2_with fail
    refine (made_yes d _ c0).mono ?_
    rintro e w1 ⟨rfl, rfl⟩
    go_wp2_with fail
    refine (known_of H.out A k c zs HZ.out).mono ?_
    rintro e w1 ⟨rfl, rfl⟩
    go_wp2_with fail
    go_ret
    exact ⟨by rw [HE.out]; rfl, rfl⟩
  · have hu' : m.up = false := by simpa using hu
    have hs : (stOf m != 0) = true := by simpa using stOf_not hu'
    have HE : Hid (runE m zs = 5) := Lib.hid (by rw [HE.out, if_pos hu'])
    clear h hz hu hu'
    generalize stOf m = st at *
    go_enter Tryz.func114, Tryz.ntmps114
    go_wp2_with fail
    refine (made_yes d _ c0).mono ?_
    rintro e w1 ⟨rfl, rfl⟩
    go_wp2_with fail
    go_ret
    exact ⟨by rw [HE.out]; rfl, rfl⟩
set_option maxHeartbeats 800000 in
theorem size_of {w : World} {d g : Nat} {pv : Value} {m : DM} (h : PD w d g pv m) :
    Calls Tryz.prog 54 #[.pointer (some ⟨d, 0, none⟩)] w fun e w' => e = .returned (.int .i64 (m.size : Nat)) ∧ w = w' := by
  obtain ⟨⟨c0, _, _, c3, _⟩, _⟩ := h.cells
  clear h
  generalize m.size = n at *
  go_enter Tryz.func54, Tryz.ntmps54
  go_wp2_with fail
  refine (made_yes d _ c0).mono ?_
  rintro e w1 ⟨rfl, rfl⟩
  go_wp2_with fail
  go_ret
  exact ⟨rfl, rfl⟩
theorem PD.pv_form {w : World} {d g : Nat} {pv : Value} {m : DM} (h : PD w d g pv m) : ∃ A c, pv = .slice A m.waits.length c ∧ m.waits.length ≤ c ∧ c ≤ 9223372036854775807 := by
  rcases h.pen.2 with ⟨e, h0⟩ | ⟨g, cap, cur, rfl, _, _, h1, h2, _⟩
  · exact ⟨none, 0, by rw [h0]; exact e, by omega, by omega⟩
  · unfold maxLen at h2
    exact ⟨_, cap, rfl, h1, h2⟩
set_option maxHeartbeats 800000 in
theorem up_of {w : World} {d g : Nat} {pv : Value} {m : DM} (h : PD w d g pv m) :
    Calls Tryz.prog 57 #[.pointer (some ⟨d, 0, none⟩)] w fun e w' => e = .returned (.bool m.up) ∧ w = w' := by
  have hr := running_of h none 0 0 [] (ZsAt.nil_ w)
  have HR := Lib.hid hr
  have HE : Hid (decide (runE m [] = 0) = m.up) := Lib.hid (by
    unfold runE knownE
    cases m.up <;> simp)
  clear h hr
  go_enter Tryz.func57, Tryz.ntmps57
  go_wp2_with fail
  refine HR.out.mono ?_
  rintro e w1 ⟨rfl, rfl⟩
  generalize runE m [] = z at *
  go_wp2_with fail
  go_ret
  exact ⟨by rw [← HE.out]; by_cases hz : z = 0 <;> simp [hz], rfl⟩
end
section
open Go Go.RowKit
def HeadAt (w : World) (d : Nat) (x0 : Value) (st p : Int) (x3 x4 : Value) : Prop := w.heap[d]? = some (.cells #[x0, .int .u8 st, .int .i64 p, x3, x4] 120 (0, 0))
theorem PD.headAt {w : World} {d g : Nat} {pv : Value} {m : DM} (h : PD w d g pv m) : HeadAt w d (.pointer (some ⟨d, 0, none⟩)) (stOf m) m.power (.slice (some ⟨g, 0, none⟩) m.size m.size) pv := h.head
theorem PD.head_turned {w w' : World} {d g : Nat} {pv : Value} {m : DM} (h : PD w d g pv m) (k : Mod (fun i => i = d) w w') (st p : Int) (hh : HeadAt w' d (.pointer (some ⟨d, 0, none⟩)) st p (.slice (some ⟨g, 0, none⟩) m.size m.size) pv)
    (m' : DM) (hok : m'.Ok) (h1 : m'.rest = m.rest) (h2 : m'.meant = m.meant) (h3 : m'.lost = m.lost) (h4 : m'.waits = m.waits) (hs : stOf m' = st) (hp : m'.power = p) (ht : p ≤ 9223372036854775807) : PD w' d g pv m' := by
  have hz : m'.size = m.size := by unfold DM.size; rw [h1]
  refine ⟨hok, by rw [hz]; exact h.n1, by rw [hp]; exact ht, by rw [hs, hp, hz]; exact hh, ?_, ?_, h.dg, h.pd⟩
  · obtain ⟨cur, c1, c2, c3⟩ := h.med.mod k (fun e => h.dg e.symm)
    exact ⟨cur, c1, by rw [hz]; exact c2, fun s hs j v hv => c3 s (by rw [← hz]; exact hs) j v (by unfold DM.sec at hv ⊢; rw [h1, h2, h3] at hv; exact hv)⟩
  · rw [h4]
    exact own_mod h.pen k fun i hi => (h.pd i hi).1
theorem Mod.own_cell {d : Nat} {a b : World} (h : Mod (fun i => i = d) a b) (k : Nat) (v : Value) : Mod (fun i => i = d) a (b.setCell ⟨d, k, none⟩ v) := h.setCell (p := ⟨d, k, none⟩) (.inl rfl) v
def drawE (p : Int) : Int := if p = 0 then 5 else 0
def drawS (p st : Int) : Int := if p = 0 then 1 else st
set_option maxHeartbeats 800000 in
theorem draw_of {w : World} {d : Nat} {x0 x3 x4 : Value} {st p : Int} (h : HeadAt w d x0 st p x3 x4) (hp : -1 ≤ p) (hp2 : p ≤ 9223372036854775807) :
    Calls Tryz.prog 161 #[.pointer (some ⟨d, 0, none⟩)] w fun e w' => e = .returned (.int .i64 (drawE p)) ∧ HeadAt w' d x0 (drawS p st) (lessP p) x3 x4 ∧ Mod (fun i => i = d) w w' := by
  obtain ⟨⟨c0, c1, c2, c3, c4⟩, f0, f1, f2, f3, f4⟩ := cells5 h
  have H := Lib.hid h
  clear h
  by_cases h1 : p = -1
  · subst h1
    go_enter Tryz.func161, Tryz.ntmps161
    go_wp2_with fail
    go_ret
    exact ⟨rfl, H.out, Mod.refl _ _⟩
  · by_cases h0 : p = 0
    · subst h0
      go_enter Tryz.func161, Tryz.ntmps161
      go_wp2_with fail
      go_ret
      exact ⟨rfl, row_set 1 H.out _ rfl, (Mod.refl _ _).own_cell _ _⟩
    · have g1 : (p == -1) = false := by simpa using h1
      have g0 : (p == 0) = false := by simpa using h0
      have HL : Hid (lessP p = p - 1) := Lib.hid (by unfold lessP; rw [if_pos (by omega)])
      have HI : Hid (drawE p = 0 ∧ drawS p st = st) := Lib.hid ⟨if_neg h0, if_neg h0⟩
      clear h0 h1
      go_enter Tryz.func161, Tryz.ntmps161
      go_wp2_with fail
      go_ret
      exact ⟨by rw [HI.out.1]; rfl, by rw [HI.out.2, HL.out]; exact row_set 2 H.out _ rfl, (Mod.refl _ _).own_cell _ _⟩
set_option maxHeartbeats 800000 in
theorem power_of {w : World} {d g : Nat} {pv : Value} {m : DM} (h : PD w d g pv m) (n : Int) (hn : n ≤ 9223372036854775807) :
    Calls Tryz.prog 39 #[.pointer (some ⟨d, 0, none⟩), .int .i64 n] w fun e w' => e = .returned (.int .i64 (m.setPower n).1) ∧ PD w' d g pv (m.setPower n).2 ∧ Mod (fun i => i = d) w w' := by
  have hr := running_of h none 0 0 [] (ZsAt.nil_ w)
  have HR := Lib.hid hr
  have H := Lib.hid h
  have HE : Hid (runE m [] = if m.up = false then 5 else 0) := Lib.hid (by
    unfold runE knownE
    simp)
  have HP : Hid (m.setPower n = if m.up = false then (5, m) else if n < 0 then (2, m) else (0, { m with power := n })) := Lib.hid rfl
  have HO := Lib.hid (DM.setPower_ok h.ok n)
  obtain ⟨⟨c0, c1, c2, c3, c4⟩, f0, f1, f2, f3, f4⟩ := h.cells
  clear h hr
  by_cases hu : m.up = false
  · have HE : Hid (runE m [] = 5) := Lib.hid (by rw [HE.out, if_pos hu])
    have HP : Hid (m.setPower n = (5, m)) := Lib.hid (by rw [HP.out, if_pos hu])
    clear hu
    go_enter Tryz.func39, Tryz.ntmps39
    go_wp2_with fail
    refine HR.out.mono ?_
    rw [HE.out]
    rintro e w1 ⟨rfl, rfl⟩
    go_wp2_with fail
    go_ret
    exact ⟨by rw [HP.out]; rfl, by rw [HP.out]; exact H.out, Mod.refl _ _⟩
  · have HE : Hid (runE m [] = 0) := Lib.hid (by rw [HE.out, if_neg hu])
    by_cases hn0 : n < 0
    · have HP : Hid (m.setPower n = (2, m)) := Lib.hid (by rw [HP.out, if_neg hu, if_pos hn0])
      clear hu
      go_enter Tryz.func39, Tryz.ntmps39
      go_wp2_with fail
      refine HR.out.mono ?_
      rw [HE.out]
      rintro e w1 ⟨rfl, rfl⟩
      go_wp2_with fail
      go_ret
      exact ⟨by rw [HP.out]; rfl, by rw [HP.out]; exact H.out, Mod.refl _ _⟩
    · have HP : Hid (m.setPower n = (0, { m with power := n })) := Lib.hid (by rw [HP.out, if_neg hu, if_neg hn0])
      clear hu
      go_enter Tryz.func39, Tryz.ntmps39
      go_wp2_with fail
      refine HR.out.mono ?_
      rw [HE.out]
      rintro e w1 ⟨rfl, rfl⟩
      go_wp2_with fail
      go_ret
      have hm : Mod (fun i => i = d) w (w.setCell ⟨d, 2, none⟩ (.int .i64 n)) := (Mod.refl _ _).own_cell _ _
      refine ⟨by rw [HP.out]; rfl, ?_, hm⟩
      exact H.out.head_turned hm (stOf m) n (row_set 2 H.out.head _ rfl) _ HO.out (by rw [HP.out]) (by rw [HP.out]) (by rw [HP.out]) (by rw [HP.out]) (by rw [HP.out]; rfl) (by rw [HP.out]) hn
set_option maxHeartbeats 800000 in
theorem start_of {w : World} {d g : Nat} {pv : Value} {m : DM} (h : PD w d g pv m) :
    Calls Tryz.prog 41 #[.pointer (some ⟨d, 0, none⟩)] w fun e w' => e = .returned (.int .i64 m.start.1) ∧ PD w' d g pv m.start.2 ∧ Mod (fun i => i = d) w w' := by
  have H := Lib.hid h
  have HP : Hid (m.start = if m.down = false then (2, m) else (0, { m with down := false, dead := false, power := -1 })) := Lib.hid rfl
  have HO := Lib.hid (DM.start_ok h.ok)
  have hst := stOf_down (m := m)
  obtain ⟨⟨c0, c1, c2, c3, c4⟩, f0, f1, f2, f3, f4⟩ := h.cells
  clear h
  by_cases hd : m.down = true
  · rw [hst.2 hd] at c1
    have HP : Hid (m.start = (0, { m with down := false, dead := false, power := -1 })) := Lib.hid (by rw [HP.out, if_neg (by rw [hd]; simp)])
    clear hd hst
    go_enter Tryz.func41, Tryz.ntmps41
    go_wp2_with fail
    refine (made_yes d _ c0).mono ?_
    rintro e w1 ⟨rfl, rfl⟩
    go_wp2_with fail
    go_ret
    have hm : Mod (fun i => i = d) w ((w.setCell ⟨d, 1, none⟩ (.int .u8 0)).setCell ⟨d, 2, none⟩ (.int .i64 (-1))) := ((Mod.refl _ _).own_cell _ _).own_cell _ _
    refine ⟨by rw [HP.out]; rfl, ?_, hm⟩
    exact H.out.head_turned hm 0 (-1) (row_set 2 (row_set 1 H.out.head _ rfl) _ rfl) _ HO.out (by rw [HP.out]) (by rw [HP.out]) (by rw [HP.out]) (by rw [HP.out]) (by rw [HP.out]; rfl) (by rw [HP.out]) (by omega)
  · have hs : (stOf m == 2) = false := by
      have : ¬ stOf m = 2 := fun e => hd (hst.1 e)
      simpa using this
    have hs2 : (stOf m != 2) = true := by
      have : ¬ stOf m = 2 := fun e => hd (hst.1 e)
      simpa using this
    have HP : Hid (m.start = (2, m)) := Lib.hid (by rw [HP.out, if_pos (by simpa using hd)])
    clear hd hst
    generalize stOf m = st at *
    go_enter Tryz.func41, Tryz.ntmps41
    go_wp2_with fail
    refine (made_yes d _ c0).mono ?_
    rintro e w1 ⟨rfl, rfl⟩
    go_wp2_with fail
    go_ret
    exact ⟨by rw [HP.out]; rfl, by rw [HP.out]; exact H.out, Mod.refl _ _⟩
end
section
open Go Go.RowKit
def zCon : Array Value := (vb z64).toArray
def zWri : Array Value := (wriC (0, z64)).toArray
def zMed : Array Value := (secC z64 z64 false).toArray
theorem con_info : (Tryz.prog.info? 189).map (fun i => (i.zero, i.size)) = some (some (.agg zCon), 64) := by kernel_rfl
theorem wri_info : (Tryz.prog.info? 191).map (fun i => (i.zero, i.size)) = some (some (.agg zWri), 65) := by kernel_rfl
theorem med_info : (Tryz.prog.info? 207).map (fun i => (i.zero, i.size)) = some (some (.agg zMed), 129) := by kernel_rfl
theorem zv_wri (w : World) : (zeroValue 191).run Tryz.prog w = .ok (.agg zWri) w := (zero_of_info wri_info).1 w
theorem zv_med (w : World) : (zeroValue 207).run Tryz.prog w = .ok (.agg zMed) w := (zero_of_info med_info).1 w
theorem sz_con : (Tryz.prog.info? 189).map (·.size) = some 64 := (zero_of_info con_info).2
theorem sz_wri : (Tryz.prog.info? 191).map (·.size) = some 65 := (zero_of_info wri_info).2
theorem sz_med : (Tryz.prog.info? 207).map (·.size) = some 129 := (zero_of_info med_info).2
theorem row_con : ∃ d, Tryz.prog.underlying 189 = some d ∧ d.isRow = true := ⟨_, Tryz.underlying189, rfl⟩
theorem row_wri : ∃ d, Tryz.prog.underlying 191 = some d ∧ d.isRow = true := ⟨_, Tryz.underlying191, rfl⟩
theorem row_med : ∃ d, Tryz.prog.underlying 207 = some d ∧ d.isRow = true := ⟨_, Tryz.underlying207, rfl⟩
theorem st_new (w : World) (t : TypeId) (c c' : Array Value) (n : Nat) (hi : (Tryz.prog.info? t).map (·.size) = some n) (hc : c.size = n) (hc' : c'.size = n) (h1 : ∀ v ∈ c', v.oneCell' = true) :
    (storeVar t ⟨w.heap.size, 0, none⟩ (.agg c')).run Tryz.prog (w.alloc (.cells c t)) = .ok () (w.alloc (.cells c' t)) :=
  run_storeVar_new w t c c' (by rw [hi, hc']) (by rw [hc, hc']) (Array.all_eq_true_iff_forall_mem.2 h1)
theorem zMed_size : zMed.size = 129 := by simp [zMed, secC, vb_length, z64]
theorem zWri_size : zWri.size = 65 := by simp [zWri, wriC, vb_length, z64]
theorem wl_con {ops : Array Oper} {rest : List Oper} {op : Oper} {a : Act} {w : World} {Q : Exit → Act → World → Prop} (hgd : op.guard = none) (x : Operand) (ho : op.op = .load 189 x) (b o : Nat) (hx : a.eval x = .pointer (some ⟨b, o, none⟩)) (cs : List Value) (hc : w.rangeAt b o cs) (hl : cs.length = 64)
    (h : wpList Tryz.prog ops Q rest (a.put op.dst (.agg cs.toArray)) w) : wpList Tryz.prog ops Q (op :: rest) a w := by
  obtain ⟨d, h1, h2⟩ := row_con
  exact wpList_load_mid hgd _ x ho b o hx cs d hc h1 h2 (by rw [sz_con, hl]) h
theorem wl_wri {ops : Array Oper} {rest : List Oper} {op : Oper} {a : Act} {w : World} {Q : Exit → Act → World → Prop} (hgd : op.guard = none) (x : Operand) (ho : op.op = .load 191 x) (b o : Nat) (hx : a.eval x = .pointer (some ⟨b, o, none⟩)) (cs : List Value) (hc : w.rangeAt b o cs) (hl : cs.length = 65)
    (h : wpList Tryz.prog ops Q rest (a.put op.dst (.agg cs.toArray)) w) : wpList Tryz.prog ops Q (op :: rest) a w := by
  obtain ⟨d, h1, h2⟩ := row_wri
  exact wpList_load_mid hgd _ x ho b o hx cs d hc h1 h2 (by rw [sz_wri, hl]) h
theorem wl_med {ops : Array Oper} {rest : List Oper} {op : Oper} {a : Act} {w : World} {Q : Exit → Act → World → Prop} (hgd : op.guard = none) (x : Operand) (ho : op.op = .load 207 x) (b o : Nat) (hx : a.eval x = .pointer (some ⟨b, o, none⟩)) (cs : List Value) (hc : w.rangeAt b o cs) (hl : cs.length = 129)
    (h : wpList Tryz.prog ops Q rest (a.put op.dst (.agg cs.toArray)) w) : wpList Tryz.prog ops Q (op :: rest) a w := by
  obtain ⟨d, h1, h2⟩ := row_med
  exact wpList_load_mid hgd _ x ho b o hx cs d hc h1 h2 (by rw [sz_med, hl]) h
theorem ws_new {ops : Array Oper} {rest : List Oper} {op : Oper} {a : Act} {w : World} {Q : Exit → Act → World → Prop} (hgd : op.guard = none) (ty : TypeId) (x y : Operand) (ho : op.op = .store ty x y) (c c' : Array Value) (n : Nat) (hx : a.eval x = .pointer (some ⟨w.heap.size, 0, none⟩)) (hy : a.eval y = .agg c')
    (hi : (Tryz.prog.info? ty).map (·.size) = some n) (hc : c.size = n) (hc' : c'.size = n) (h1 : ∀ v ∈ c', v.oneCell' = true) (h : wpList Tryz.prog ops Q rest (a.put op.dst undef) (w.alloc (.cells c' ty))) : wpList Tryz.prog ops Q (op :: rest) a (w.alloc (.cells c ty)) :=
  wpList_plain hgd fun _ hK => by
    unfold Oper.wp execOp
    simp only [ho, hx, hy, Instr.storeAt, Instr.sureAddr, Sem.run_bind, Sem.run_pure, Result.andThen_ok, st_new w ty c c' n hi hc hc' h1]
    exact hK _ _ h
theorem ws_med {ops : Array Oper} {rest : List Oper} {op : Oper} {a : Act} {w : World} {Q : Exit → Act → World → Prop} (hgd : op.guard = none) (x y : Operand) (ho : op.op = .store 207 x y) (cs : List Value) (hx : a.eval x = .pointer (some ⟨w.heap.size, 0, none⟩)) (hy : a.eval y = .agg cs.toArray)
    (hl : cs.length = 129) (h1 : ∀ v ∈ cs, v.oneCell' = true) (h : wpList Tryz.prog ops Q rest (a.put op.dst undef) (w.alloc (.cells cs.toArray 207))) : wpList Tryz.prog ops Q (op :: rest) a (w.alloc (.cells zMed 207)) :=
  ws_new hgd _ x y ho zMed _ 129 hx hy sz_med zMed_size (by simpa using hl) (fun v hv => h1 v (by simpa using hv)) h
theorem ws_wri {ops : Array Oper} {rest : List Oper} {op : Oper} {a : Act} {w : World} {Q : Exit → Act → World → Prop} (hgd : op.guard = none) (x y : Operand) (ho : op.op = .store 191 x y) (cs : List Value) (hx : a.eval x = .pointer (some ⟨w.heap.size, 0, none⟩)) (hy : a.eval y = .agg cs.toArray)
    (hl : cs.length = 65) (h1 : ∀ v ∈ cs, v.oneCell' = true) (h : wpList Tryz.prog ops Q rest (a.put op.dst undef) (w.alloc (.cells cs.toArray 191))) : wpList Tryz.prog ops Q (op :: rest) a (w.alloc (.cells zWri 191)) :=
  ws_new hgd _ x y ho zWri _ 65 hx hy sz_wri zWri_size (by simpa using hl) (fun v hv => h1 v (by simpa using hv)) h
theorem range_new (w : World) (t : TypeId) (cs pre mid post : List Value) (h : cs = pre ++ (mid ++ post)) (o : Nat) (ho : pre.length = o) : (w.alloc (.cells cs.toArray t)).rangeAt w.heap.size o mid := fun j v hv => by
  subst h; subst ho
  have hj : j < mid.length := (List.getElem?_eq_some_iff.1 hv).1
  rw [World.cell?_alloc_new]
  rw [List.getElem?_toArray, List.getElem?_append_right (by omega), Nat.add_sub_cancel_left, List.getElem?_append_left hj]
  exact hv
theorem MedAt.range {w : World} {g : Nat} {m : DM} (h : MedAt w g m) {s : Nat} (hs : s < m.size) : w.rangeAt g (s * 129) (m.sec s) := fun j v hv => by
  obtain ⟨cur, h1, _, h3⟩ := h
  rw [cell_of_row w g (s * 129 + j) cur _ _ h1]
  exact h3 s hs j v hv
theorem DM.Ok.rest_at {m : DM} (h : m.Ok) {s : Nat} (hs : s < m.size) : Sect (m.rest.getD s []) := by
  have hs' : s < m.rest.length := hs
  rw [List.getD_eq_getElem?_getD, List.getElem?_eq_getElem hs', Option.getD_some]
  exact h.rests _ (List.getElem_mem hs')
theorem DM.Ok.meant_at {m : DM} (h : m.Ok) {s : Nat} (hs : s < m.size) : Sect (m.meant.getD s []) := by
  have hs' : s < m.meant.length := by rw [h.meant]; exact hs
  rw [List.getD_eq_getElem?_getD, List.getElem?_eq_getElem hs', Option.getD_some]
  exact h.means _ (List.getElem_mem hs')
theorem DM.Ok.sec_len {m : DM} (h : m.Ok) {s : Nat} (hs : s < m.size) : (m.sec s).length = 129 := secC_len (h.rest_at hs).1 (h.meant_at hs).1
structure New (B : Nat) (w : World) (A : Option Addr) (n : Nat) (l : List Nat) : Prop where
  len : l.length = n
  lt : ∀ b ∈ l, b < 256
  at_ : (n = 0 ∧ A = none) ∨ ∃ g t, A = some ⟨g, 0, none⟩ ∧ B ≤ g ∧ w.heap[g]? = some (.cells (vb l).toArray t (0, 0))
  le : n ≤ 64
theorem New.none_ (B : Nat) (w : World) : New B w none 0 [] := ⟨rfl, by simp, .inl ⟨rfl, rfl⟩, by omega⟩
theorem New.by {B : Nat} {w : World} {A : Option Addr} {n : Nat} {l : List Nat} (h : New B w A n l) : By w A n n l := by
  have hn : n ≤ 9223372036854775807 := by have := h.le; omega
  rcases h.at_ with ⟨rfl, rfl⟩ | ⟨g, t, rfl, _, hg⟩
  · rw [List.eq_nil_of_length_eq_zero h.len]
    exact By.nil_ w
  · exact By.of_row hg (fun j x hx => vb_at hx) h.lt h.len (Nat.le_refl _) hn
theorem New.mod {B : Nat} {w w' : World} {A : Option Addr} {n : Nat} {l : List Nat} {F : Nat → Prop} (h : New B w A n l) (k : Mod F w w') (hF : ∀ p, A = some p → ¬ F p.block) : New B w' A n l := by
  refine ⟨h.len, h.lt, ?_, h.le⟩
  rcases h.at_ with h0 | ⟨g, t, e, hb, hg⟩
  · exact .inl h0
  · exact .inr ⟨g, t, e, hb, heap_mod hg k (hF _ e)⟩
theorem New.ext {B : Nat} {w w' : World} {A : Option Addr} {n : Nat} {l : List Nat} (h : New B w A n l) (k : Ext w w') : New B w' A n l := h.mod (F := fun _ => False) (Mod.of_ext k) fun _ _ h => h
theorem New.base {B B' : Nat} {w : World} {A : Option Addr} {n : Nat} {l : List Nat} (h : New B w A n l) (hB : B' ≤ B) : New B' w A n l :=
  ⟨h.len, h.lt, h.at_.imp id fun ⟨g, t, e, hb, hg⟩ => ⟨g, t, e, Nat.le_trans hB hb, hg⟩, h.le⟩
theorem New.off {B : Nat} {w : World} {A : Option Addr} {n : Nat} {l : List Nat} {F : Nat → Prop} (h : New B w A n l) (hF : ∀ i, F i → i < B) : Off F A := fun p hp hf => by
  rcases h.at_ with ⟨_, h0⟩ | ⟨g, t, e, hb, hg⟩
  · rw [h0] at hp; cases hp
  · rw [e] at hp
    injection hp with hp
    subst hp
    have := hF _ hf
    simp at this
    omega
theorem New.alloc (w : World) (l : List Nat) (t : TypeId) (hl : Sect l) {B : Nat} (hB : B ≤ w.heap.size) : New B (w.alloc (.cells (vb l).toArray t)) (some ⟨w.heap.size, 0, none⟩) 64 l :=
  ⟨hl.1, hl.2, .inr ⟨_, t, rfl, hB, heap_alloc_new w _⟩, Nat.le_refl _⟩
theorem New.alloc2 (w : World) (o : Obj) (l : List Nat) (t : TypeId) (hl : Sect l) {B : Nat} (hB : B ≤ w.heap.size) : New B ((w.alloc o).alloc (.cells (vb l).toArray t)) (some ⟨w.heap.size + 1, 0, none⟩) 64 l := by
  rw [show w.heap.size + 1 = (w.alloc o).heap.size from by simp]
  exact New.alloc _ l t hl (by simp; omega)
set_option maxHeartbeats 800000 in
theorem told_of (l : List Nat) (w : World) :
    Calls Tryz.prog 248 #[.agg (vb l).toArray] w fun e w' => e = .returned (.slice (some ⟨w.heap.size, 0, none⟩) 64 64) ∧ w' = w.alloc (.cells (vb l).toArray 189) := by
  generalize (vb l).toArray = cs
  go_enter Tryz.func248, Tryz.ntmps248
  go_wp2
  go_ret
  exact ⟨rfl, rfl⟩
end
section
open Go Go.RowKit
theorem known_one (m : DM) (s : Int) : knownE m.size [s] = if m.has s = false then 2 else 0 := by
  unfold knownE DM.has
  by_cases h : 0 ≤ s ∧ s < (m.size : Int)
  · rw [if_pos (by simpa using h)]; simp [h]
  · rw [if_neg (by simpa using h)]
    rw [if_pos]
    simp only [Bool.and_eq_false_iff, decide_eq_false_iff_not]
    omega
theorem ZsAt.one (w : World) (s : Int) (t : TypeId) : ZsAt (w.alloc (.cells #[.int .i64 s] t)) (some ⟨w.heap.size, 0, none⟩) 1 [s] := by
  refine ⟨rfl, by omega, fun _ => ⟨_, rfl, fun j z hz => ?_⟩⟩
  rw [World.cell?_alloc_new]
  have hj : j < 1 := (List.getElem?_eq_some_iff.1 hz).1
  obtain rfl : j = 0 := by omega
  simp at hz
  subst hz
  rfl
theorem PD.ext {w w' : World} {d g : Nat} {pv : Value} {m : DM} (h : PD w d g pv m) (k : Ext w w') : PD w' d g pv m := h.mod (F := fun _ => False) (Mod.of_ext k) fun _ _ h => h
theorem sec_lost {m : DM} (h : m.Ok) {s : Nat} (hs : s < m.size) : (m.sec s)[128]? = some (.bool (m.lost.getD s false)) := by
  have h1 := (h.rest_at hs).1
  have h2 := (h.meant_at hs).1
  show (vb (m.rest.getD s []) ++ (vb (m.meant.getD s []) ++ [Value.bool (m.lost.getD s false)]))[128]? = _
  rw [List.getElem?_append_right (by rw [vb_length]; omega), List.getElem?_append_right (by rw [vb_length, vb_length]; omega), vb_length, vb_length, h1, h2]
  rfl
theorem sec_cut (m : DM) (s : Nat) : m.sec s = vb (m.rest.getD s []) ++ (vb (m.meant.getD s []) ++ [.bool (m.lost.getD s false)]) := rfl
set_option maxHeartbeats 1600000 in
theorem rest_of {w : World} {d g : Nat} {pv : Value} {m : DM} (h : PD w d g pv m) (s : Int) :
    Calls Tryz.prog 244 #[.pointer (some ⟨d, 0, none⟩), .int .i64 s] w fun e w' => ∃ A n, e = .returned (.tuple #[.slice A n n, .bool (m.at_ s).2.1, .int .i64 (m.at_ s).2.2]) ∧ New w.heap.size w' A n (m.at_ s).1 ∧ Ext w w' := by
  have hx := (Ext.refl w).alloc (.cells #[.int .i64 s] 3)
  have h1 := h.ext hx
  have hz := ZsAt.one w s 3
  have hk := known_of h1 _ 1 1 [s] hz
  rw [known_one] at hk
  have HK := Lib.hid hk
  have HX := Lib.hid hx
  have H1 := Lib.hid h1
  have HP : Hid (m.at_ s = if m.has s = false then ([], false, 2) else if m.lost.getD s.toNat false = true then ([], true, 0) else (m.rest.getD s.toNat [], false, 0)) := Lib.hid rfl
  clear h h1 hx hz hk
  by_cases hh : m.has s = false
  · have HP : Hid (m.at_ s = ([], false, 2)) := Lib.hid (by rw [HP.out, if_pos hh])
    have hk := HK.out
    rw [if_pos hh] at hk
    have HK := Lib.hid hk
    clear hk hh
    go_enter Tryz.func244, Tryz.ntmps244
    go_wp2_with fail
    refine HK.out.mono ?_
    rintro e w1 ⟨rfl, rfl⟩
    go_wp2_with fail
    go_ret3
    exact ⟨none, 0, by rw [HP.out]; rfl, by rw [HP.out]; exact New.none_ _ _, HX.out⟩
  · have hk := HK.out
    rw [if_neg hh] at hk
    have HK := Lib.hid hk
    have hhas : m.has s = true := by simpa using hh
    obtain ⟨hs0, hs1⟩ := DM.has_iff.1 hhas
    obtain ⟨k, rfl⟩ := Int.eq_ofNat_of_zero_le hs0
    have hks : k < m.size := by omega
    rw [Int.toNat_natCast] at HP
    have HP : Hid (m.at_ (k : Int) = if m.lost.getD k false = true then ([], true, 0) else (m.rest.getD k [], false, 0)) := Lib.hid (by rw [HP.out, if_neg hh])
    clear hk hh hhas
    go_enter Tryz.func244, Tryz.ntmps244
    go_wp2_with fail
    refine HK.out.mono ?_
    rintro e w1 ⟨rfl, rfl⟩
    obtain ⟨⟨c0, c1, c2, c3, c4⟩, f0, f1, f2, f3, f4⟩ := H1.out.cells
    have hr := H1.out.med.range hks
    have hlen := H1.out.ok.sec_len hks
    have hzv := zv_med
    generalize w.alloc (.cells #[.int .i64 (k : Int)] 3) = w1 at *
    have HR := Lib.hid hr
    have HLN := Lib.hid hlen
    have HONE : Hid (∀ u ∈ m.sec k, u.oneCell' = true) := Lib.hid (secC_one _ _ _)
    have HSR := Lib.hid (H1.out.ok.rest_at hks)
    clear hr hlen f0 f1 f2 f3 f4
    have h128 := sec_lost H1.out.ok hks
    have HRN : Hid ((w1.alloc (.cells (m.sec k).toArray 207)).rangeAt w1.heap.size 0 (vb (m.rest.getD k []))) := Lib.hid (range_new w1 _ _ [] _ _ (sec_cut m k) 0 rfl)
    by_cases hlost : m.lost.getD k false = true
    · rw [hlost] at h128
      have HP : Hid (m.at_ (k : Int) = ([], true, 0)) := Lib.hid (by rw [HP.out, if_pos hlost])
      clear hlost
      go_wp2_with (first
        | (refine wl_med rfl _ rfl g (k * 129) rfl (m.sec k) HR.out HLN.out ?_)
        | (refine ws_med rfl _ _ rfl (m.sec k) rfl rfl HLN.out HONE.out ?_))
      go_ret3
      exact ⟨none, 0, by rw [HP.out]; rfl, by rw [HP.out]; exact New.none_ _ _, HX.out.alloc _⟩
    · have hl : m.lost.getD k false = false := by simpa using hlost
      rw [hl] at h128
      have HP : Hid (m.at_ (k : Int) = (m.rest.getD k [], false, 0)) := Lib.hid (by rw [HP.out, if_neg hlost])
      clear hlost hl
      go_wp2_with (first
        | (refine wl_med rfl _ rfl g (k * 129) rfl (m.sec k) HR.out HLN.out ?_)
        | (refine ws_med rfl _ _ rfl (m.sec k) rfl rfl HLN.out HONE.out ?_)
        | (refine wl_con rfl _ rfl w1.heap.size 0 rfl _ HRN.out (by rw [vb_length]; exact HSR.out.1) ?_))
      refine (told_of _ _).mono ?_
      rintro e w2 ⟨rfl, rfl⟩
      go_wp2_with fail
      go_ret3
      exact ⟨_, 64, by rw [HP.out]; rfl, by rw [HP.out]; exact New.alloc2 _ _ _ _ HSR.out HX.out.size, (HX.out.alloc _).alloc _⟩
set_option maxHeartbeats 1600000 in
theorem meant_of {w : World} {d g : Nat} {pv : Value} {m : DM} (h : PD w d g pv m) (s : Int) :
    Calls Tryz.prog 245 #[.pointer (some ⟨d, 0, none⟩), .int .i64 s] w fun e w' => ∃ A n, e = .returned (.tuple #[.slice A n n, .int .i64 (m.means s).2]) ∧ New w.heap.size w' A n (m.means s).1 ∧ Ext w w' := by
  have hx := (Ext.refl w).alloc (.cells #[.int .i64 s] 3)
  have h1 := h.ext hx
  have hz := ZsAt.one w s 3
  have hk := known_of h1 _ 1 1 [s] hz
  rw [known_one] at hk
  have HK := Lib.hid hk
  have HX := Lib.hid hx
  have H1 := Lib.hid h1
  have HP : Hid (m.means s = if m.has s = false then ([], 2) else (m.meant.getD s.toNat [], 0)) := Lib.hid rfl
  clear h h1 hx hz hk
  by_cases hh : m.has s = false
  · have HP : Hid (m.means s = ([], 2)) := Lib.hid (by rw [HP.out, if_pos hh])
    have hk := HK.out
    rw [if_pos hh] at hk
    have HK := Lib.hid hk
    clear hk hh
    go_enter Tryz.func245, Tryz.ntmps245
    go_wp2_with fail
    refine HK.out.mono ?_
    rintro e w1 ⟨rfl, rfl⟩
    go_wp2_with fail
    go_ret2
    exact ⟨none, 0, by rw [HP.out]; rfl, by rw [HP.out]; exact New.none_ _ _, HX.out⟩
  · have hk := HK.out
    rw [if_neg hh] at hk
    have HK := Lib.hid hk
    have hhas : m.has s = true := by simpa using hh
    obtain ⟨hs0, hs1⟩ := DM.has_iff.1 hhas
    obtain ⟨k, rfl⟩ := Int.eq_ofNat_of_zero_le hs0
    have hks : k < m.size := by omega
    rw [Int.toNat_natCast] at HP
    have HP : Hid (m.means (k : Int) = (m.meant.getD k [], 0)) := Lib.hid (by rw [HP.out, if_neg hh])
    clear hk hh hhas
    go_enter Tryz.func245, Tryz.ntmps245
    go_wp2_with fail
    refine HK.out.mono ?_
    rintro e w1 ⟨rfl, rfl⟩
    obtain ⟨⟨c0, c1, c2, c3, c4⟩, f0, f1, f2, f3, f4⟩ := H1.out.cells
    have hr := H1.out.med.range hks
    have hm : (w.alloc (.cells #[.int .i64 (k : Int)] 3)).rangeAt g (k * 129 + 64) (vb (m.meant.getD k [])) := fun j v hv => by
      have hj : j < (vb (m.meant.getD k [])).length := (List.getElem?_eq_some_iff.1 hv).1
      have h64 := (H1.out.ok.rest_at hks).1
      rw [Nat.add_assoc]
      refine hr (64 + j) v ?_
      rw [sec_cut, List.getElem?_append_right (by rw [vb_length]; omega), vb_length, h64, Nat.add_sub_cancel_left, List.getElem?_append_left hj]
      exact hv
    generalize w.alloc (.cells #[.int .i64 (k : Int)] 3) = w1 at *
    have HR := Lib.hid hm
    have HSR := Lib.hid (H1.out.ok.meant_at hks)
    clear hr hm f0 f1 f2 f3 f4
    go_wp2_with (first
      | (refine wl_con rfl _ rfl g (k * 129 + 64) rfl _ HR.out (by rw [vb_length]; exact HSR.out.1) ?_))
    refine (told_of _ _).mono ?_
    rintro e w2 ⟨rfl, rfl⟩
    go_wp2_with fail
    go_ret2
    exact ⟨_, 64, by rw [HP.out]; rfl, by rw [HP.out]; exact New.alloc _ _ _ HSR.out (by have := HX.out.size; omega), HX.out.alloc _⟩
end
end Go.Proofs.YtgcinagkbdcgiaaGreatDoor
