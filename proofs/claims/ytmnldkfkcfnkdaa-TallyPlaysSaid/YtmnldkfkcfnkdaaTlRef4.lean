/-
  The contract of the document's tally's Drop.
-/
import Derived.Test.YtmnldkfkcfnkdaaTlRef3
import Derived.Test.YtmnldkfkcfnkdaaBlApp
namespace Go.Proofs.Ytmnldkfkcfnkdaa
open Go Go.RowKit Go.Maps

theorem dropT_take {L : List (Int × Nat)} {j : Nat} {p : Int × Nat} (h : L[j]? = some p) (i : Int) : dropT (L.take (j + 1)) i = if i < p.1 then dropT (L.take j) i ++ [p] else dropT (L.take j) i := by
  unfold dropT
  rw [List.take_add_one, h, Option.toList_some, List.filter_append]
  by_cases hi : i < p.1
  · rw [if_pos hi]
    simp [hi]
  · rw [if_neg hi]
    simp [hi]
theorem own_base {w : World} {B B' : Nat} {v : Value} {n : Nat} {xs : List Value} (h : w.ownsRow B 61 2 v n xs) (hB : B' ≤ B) : w.ownsRow B' 61 2 v n xs := by
  refine ⟨h.1, ?_⟩
  rcases h.2 with h2 | ⟨g, cap, cur, h1, h2, h3⟩
  · exact .inl h2
  · exact .inr ⟨g, cap, cur, h1, Nat.le_trans hB h2, h3⟩
set_option maxRecDepth 100000 in
set_option maxHeartbeats 3200000 in
theorem rdrop_of {w : World} {q n : Nat} {v : Value} {L : List (Int × Nat)} (z : RQ w q n v L) (i : Int) :
    Calls Try.prog 14 #[.pointer (some ⟨q, 0, none⟩), .int .i64 i] w fun e w' => e = .returned (.tuple #[]) ∧ ∃ v', RQ w' q n v' (dropT L i) ∧ Below q w w' ∧ Mod (FR q v) w w' := by
  obtain ⟨i0, hi0, hz0, hz1, hz2⟩ := info_parts row_infoT
  have HZ := Lib.hid z
  have h64 := z.ok.most
  obtain ⟨A, c, rfl, hcap, hmost⟩ := z.form
  obtain ⟨B, hB⟩ : ∃ B, w.heap.size = B := ⟨_, rfl⟩
  have HB := Lib.hid hB
  have HO0 : Hid (w.ownsRow B 61 2 (.slice none 0 0) (dropT (L.take 0) i).length ((dropT (L.take 0) i).flatMap rowC)) := Lib.hid (World.ownsRow_nil _ _ _ _)
  clear z hB
  go_enter Try.func14, Try.ntmps14
  go_wp2_with fail
  go_loopw [4, 5] (fun t iv wr => ∃ (j : Nat), j ≤ L.length ∧ iv = .int .i64 (j : Int) ∧ Hid (wr.ownsRow B 61 2 t (dropT (L.take j) i).length ((dropT (L.take j) i).flatMap rowC)) ∧ Hid (Ext w wr)) (fun _ iv _ => L.length - (intOf iv).toNat)
  case atStart => exact ⟨0, Nat.zero_le _, rfl, HO0, Lib.hid (Ext.refl _)⟩
  case round =>
    obtain ⟨j, hj, rfl, HO, HX⟩ := hrel
    have z := HZ.out.ext HX.out
    obtain ⟨c0, c1⟩ := z.cells
    by_cases hlt : j < L.length
    · obtain ⟨p, hp⟩ : ∃ p, L[j]? = some p := ⟨_, List.getElem?_eq_getElem hlt⟩
      obtain ⟨g, cap, hv, _, _, _, _, _, e0, e1⟩ := z.at_ hp
      injection hv with hA hL hC
      subst hA hC
      have hdt := dropT_take hp i
      obtain ⟨k, s⟩ := p
      dsimp only at e0 e1 hdt
      have HDT := Lib.hid hdt
      have hji : (j : Int) < (L.length : Int) := by omega
      clear z hp hL hdt c0
      by_cases hik : i < k
      · have d1 : decide (i < k) = true := decide_eq_true hik
        have hlen : (dropT (L.take j) i).length ≤ 64 := by
          have h1 := List.length_filter_le (fun p : Int × Nat => decide (i < p.1)) (L.take j)
          have h2 := List.length_take_le j L
          unfold dropT
          omega
        have HDT2 : Hid (dropT (L.take (j + 1)) i = dropT (L.take j) i ++ [(k, s)]) := Lib.hid (by rw [HDT.out, if_pos hik])
        obtain ⟨M, hM⟩ : ∃ M, dropT (L.take j) i = M := ⟨_, rfl⟩
        rw [hM] at HO hlen HDT2
        have hx0 : Ext wr (wr.alloc (.cells #[.int .i64 k, .int .u8 (s : Int)] 61)) := (Ext.refl wr).alloc _
        have hr0 := heap_alloc_new wr (.cells #[.int .i64 k, .int .u8 (s : Int)] 61)
        have HX0 := Lib.hid hx0
        have HL1 := Lib.hid (ls_one (cells := rowC) (N := 2) (t := 61) ((k, s) : Int × Nat) rfl hr0)
        clear hM hx0 hr0
        go_wp2_with (at_builtin; refine wpList_append_ls (cells := rowC) (N := 2) (fun _ => rfl) (by omega) rowC_one rfl _ _ 56 rfl B 61 i0 (.agg #[.int .i64 0, .int .u8 0]) 16 Try.underlying56 hi0 hz0 hz1 hz2 rfl _ M.length (M.flatMap rowC) rfl (ownsRow_extL HO.out HX0.out) _ (some ⟨wr.heap.size, 0, none⟩) 1 1 [((k, s) : Int × Nat)] rfl HL1.out (by unfold maxLen; omega) (by omega) (by have := HB.out; have := HX.out.size; have := HX0.out.size; omega) ?_)
        intro v2 w2 ho hgr
        have ho2 : w2.ownsRow B 61 2 v2 (dropT (L.take (j + 1)) i).length ((dropT (L.take (j + 1)) i).flatMap rowC) := by
          rw [HDT2.out, List.length_append, List.flatMap_append]
          exact ho
        have hx2 : Ext w w2 := Below.grown (HX.out.trans HX0.out) hgr (HX.out.trans HX0.out).size (fun b hb => by rw [HB.out]; exact (World.ownsRow.lt HO.out b hb).1)
        have HO2 := Lib.hid ho2
        have HX2 := Lib.hid hx2
        clear ho hgr ho2 hx2
        go_wp2_with fail
        go_roundw
        case rel => exact ⟨j + 1, by omega, by go_num, HO2, HX2⟩
        case measure => simp [intOf]; omega
      · have d1 : decide (i < k) = false := decide_eq_false hik
        have HDT2 : Hid (dropT (L.take (j + 1)) i = dropT (L.take j) i) := Lib.hid (by rw [HDT.out, if_neg hik])
        go_wp2_with fail
        go_roundw
        case rel => exact ⟨j + 1, by omega, by go_num, by rw [HDT2.out]; exact HO, HX⟩
        case measure => simp [intOf]; omega
    · have hjl : j = L.length := by omega
      subst hjl
      have hO := HO.out
      rw [List.take_length] at hO
      obtain ⟨A2, c2, hv2, -⟩ := Ls.of_own (cells := rowC) (N := 2) (fun _ => rfl) (by omega) hO
      subst hv2
      obtain ⟨v2, hv2⟩ : ∃ v2, Value.slice A2 (dropT L i).length c2 = v2 := ⟨_, rfl⟩
      have HV2 := Lib.hid hv2
      have hOo := hO
      rw [hv2] at hO
      have hf1 : wr.frozen? ⟨q, 1, none⟩ = false := frozen_of_row wr q 1 _ _ z.row
      have HR : Hid (RQ (wr.setCell ⟨q, 1, none⟩ v2) q n v2 (dropT L i) ∧ Below q w (wr.setCell ⟨q, 1, none⟩ v2) ∧ Mod (FR q (.slice A L.length c)) w (wr.setCell ⟨q, 1, none⟩ v2)) := Lib.hid (by
        have hm : Mod (fun k => k = q) wr (wr.setCell ⟨q, 1, none⟩ v2) := Mod.setCell (F := fun k => k = q) (Mod.refl _ _) (p := ⟨q, 1, none⟩) (.inl rfl) _
        have hqB : q < B := by have := HZ.out.lt; have := HB.out; omega
        refine ⟨⟨row_setQ 1 z.row _ rfl, own_mod (own_base hO (Nat.succ_le_of_lt hqB)) hm (fun k hk hf => by have := ((World.ownsRow.lt hO) k hk).1; omega), HZ.out.ok.drop i, HZ.out.cnt⟩, low_trans (low_of_ext (Nat.le_of_lt HZ.out.lt) HX.out) (low_of_mod (Nat.le_of_lt z.lt) hm fun k hk => by omega), (Mod.of_ext HX.out).trans hm fun k hk => .inl (.inl hk)⟩)
      rw [← HV2.out] at HR
      clear z c0 hO hv2 hOo HV2
      go_wp2_with fail
      go_end0
      exact ⟨rfl, _, HR.out⟩
end Go.Proofs.Ytmnldkfkcfnkdaa
