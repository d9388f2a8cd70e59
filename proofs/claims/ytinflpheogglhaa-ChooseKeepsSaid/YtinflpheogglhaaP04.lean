/-
  The contract of ballot's Next.
-/
import Derived.Test.YtinflpheogglhaaP00
import Derived.Test.YtinflpheogglhaaP01
import Derived.Test.YtinflpheogglhaaP02
import Derived.Test.YtinflpheogglhaaP03
import Derived.Deep.DeepCutAuto
import Derived.Test.YtinflpheogglhaaProg
import Derived.WalkKit
import Derived.WalkSpells
import Derived.BigQuiet
import Derived.OwnWalk
import Derived.Laws.AppendOwnNone
import Derived.Lib.Hide
import Derived.Laws.BitsAllLaws
namespace Go.Proofs.Ytinflpheogglhaa
set_option maxRecDepth 100000
section
open Go Go.RowKit
theorem one_stored {w : World} {b b' i : Nat} {v : Value} {o : Obj} (hb : b' ≠ b) (h' : w.heap[b']? = some o) : (w.setCell ⟨b, i, none⟩ v).heap[b']? = some o :=
  heap_mod h' (Mod.setCell (F := fun k => k = b) (Mod.refl (fun k => k = b) w) (p := ⟨b, i, none⟩) (.inl rfl) v) hb
set_option maxHeartbeats 800000 in
theorem nextB_of (x y r n : Int) (w : World) : Calls Try.prog 32 #[.agg #[.int .i64 x, .int .i64 y], .int .i64 r, .int .i64 n] w fun e w' => e = .returned (.tuple #[.agg #[.int .i64 (nextB ⟨x, y⟩ r n).x, .int .i64 (nextB ⟨x, y⟩ r n).y], .int .i64 (errB ⟨x, y⟩ r n)]) ∧ Ext w w' := by
  have HX := Lib.hid ((Ext.refl w).alloc (.cells #[.int .i64 x, .int .i64 y] 40))
  have HX2 := Lib.hid (((Ext.refl w).alloc (.cells #[.int .i64 x, .int .i64 y] 40)).alloc (.cells #[.int .i64 0, .int .i64 0] 40))
  have hrow := heap_alloc_new w (.cells #[.int .i64 x, .int .i64 y] 40)
  have hrow2 := heap_alloc_new (w.alloc (.cells #[.int .i64 x, .int .i64 y] 40)) (.cells #[.int .i64 0, .int .i64 0] 40)
  have hrow1 := keep_rowB ((Ext.refl (w.alloc (.cells #[.int .i64 x, .int .i64 y] 40))).alloc (.cells #[.int .i64 0, .int .i64 0] 40)) hrow
  have e1 : (w.alloc (.cells #[.int .i64 x, .int .i64 y] 40)).heap.size = w.heap.size + 1 := by simp
  rw [e1] at hrow2
  have HR1 := Lib.hid hrow1
  have HR2 := Lib.hid hrow2
  clear hrow hrow1 hrow2 e1
  by_cases hok : okB ⟨x, y⟩ r n = true
  case neg =>
    have hok : okB ⟨x, y⟩ r n = false := by simpa using hok
    have hn : nextB ⟨x, y⟩ r n = ⟨0, 0⟩ := by unfold nextB; rw [hok]; rfl
    have he : errB ⟨x, y⟩ r n = 2 := by unfold errB; rw [hok]; rfl
    rw [hn, he]
    rw [okB_rep] at hok
    clear hn he
    have HREP := Lib.hid (fun V => isreplica_of r n V)
    have HMAY := Lib.hid (fun V => mayB_of x y n V)
    cases h1 : repB r n with
    | false =>
      rw [h1] at HREP
      clear hok h1
      go_enter Try.func32, Try.ntmps32
      go_wp2_with fail
      refine (HREP.out _).mono ?_
      rintro e w1 ⟨rfl, rfl⟩
      go_wp2_with fail
      obtain ⟨f0, f1, _, _⟩ := bal_row HR2.out
      refine bodyPost_ret (v := .tuple #[.agg #[.int .i64 0, .int .i64 0], .int .i64 2]) (by simp [results, Try.results32, go_sem, f0, f1]) rfl ?_
      exact ⟨rfl, HX2.out⟩
    | true =>
      rw [h1, Bool.true_and] at hok
      rw [h1] at HREP
      rw [hok] at HMAY
      clear hok h1
      go_enter Try.func32, Try.ntmps32
      go_wp2_with fail
      refine (HREP.out _).mono ?_
      rintro e w1 ⟨rfl, rfl⟩
      go_wp2_with fail
      refine (HMAY.out _).mono ?_
      rintro e w1 ⟨rfl, hx⟩
      have HXA := Lib.hid (HX2.out.trans hx)
      have HR2 := Lib.hid (keep_rowB hx HR2.out)
      obtain ⟨d0, d1, d2, d3⟩ := bal_row HR2.out
      clear hx
      go_wp2_with fail
      obtain ⟨f0, f1, _, _⟩ := bal_row (bal_store 0 0 HR2.out)
      refine bodyPost_ret (v := .tuple #[.agg #[.int .i64 0, .int .i64 0], .int .i64 2]) (by simp [results, Try.results32, go_sem, f0, f1]) rfl ?_
      exact ⟨rfl, (HXA.out.setCell (p := ⟨w.heap.size + 1, 0, none⟩) (by show w.heap.size ≤ w.heap.size + 1; omega) _).setCell (p := ⟨w.heap.size + 1, 1, none⟩) (by show w.heap.size ≤ w.heap.size + 1; omega) _⟩
  case pos =>
    have hk := okB_iff.1 hok
    rw [okB_rep, Bool.and_eq_true] at hok
    obtain ⟨h1, h2⟩ := hok
    have HREP := Lib.hid (fun V => isreplica_of r n V)
    have HMAY := Lib.hid (fun V => mayB_of x y n V)
    rw [h1] at HREP
    rw [h2] at HMAY
    obtain ⟨B, hB⟩ : ∃ B, nextB ⟨x, y⟩ r n = B := ⟨_, rfl⟩
    obtain ⟨E, hE⟩ : ∃ E, errB ⟨x, y⟩ r n = E := ⟨_, rfl⟩
    rw [hB, hE]
    have hnx : (if roundB ⟨x, y⟩ r ≤ 1099511627776 then (⟨roundB ⟨x, y⟩ r, r⟩ : Bal) else ⟨0, 0⟩) = B := by rw [← hB]; unfold nextB; rw [if_pos (okB_iff.2 hk)]
    have her : (if roundB ⟨x, y⟩ r ≤ 1099511627776 then (0 : Int) else 4) = E := by rw [← hE]; unfold errB; rw [if_pos (okB_iff.2 hk)]
    have HNX := Lib.hid (And.intro hnx her)
    clear h1 h2 hB hE hnx her
    go_enter Try.func32, Try.ntmps32
    go_wp2_with fail
    refine (HREP.out _).mono ?_
    rintro e w1 ⟨rfl, rfl⟩
    go_wp2_with fail
    refine (HMAY.out _).mono ?_
    rintro e w1 ⟨rfl, hx⟩
    have HXA := Lib.hid (HX2.out.trans hx)
    have HR2 := Lib.hid (keep_rowB hx HR2.out)
    have HR1 := Lib.hid (keep_rowB hx HR1.out)
    clear hx
    obtain ⟨b0, hb0⟩ : ∃ b0, w.heap.size = b0 := ⟨_, rfl⟩
    rw [hb0] at HR1 HR2 ⊢
    have HB0 := Lib.hid hb0
    clear hb0
    have hlt1 : b0 + 1 < w1.heap.size := (Array.getElem?_eq_some_iff.1 HR2.out).1
    obtain ⟨nb, hnb⟩ : ∃ nb, w1.heap.size = nb := ⟨_, rfl⟩
    obtain ⟨c0, c1, c2, c3⟩ := bal_row HR1.out
    have q0 := fun ob => (bal_row (keep_rowB ((Ext.refl w1).alloc ob) HR1.out)).1
    have q1 := fun ob => (bal_row (keep_rowB ((Ext.refl w1).alloc ob) HR1.out)).2.1
    have HNEW := Lib.hid (fun ob => heap_alloc_new w1 ob)
    rw [hnb] at HNEW
    by_cases hx0 : x = 0
    · have hy0 : y = 0 := by omega
      have HAN : Hid ((⟨1, r⟩ : Bal) = B ∧ (0 : Int) = E) := Lib.hid (by
        have h1 : roundB ⟨x, y⟩ r = 1 := by unfold roundB; rw [if_pos hx0]
        have := HNX.out
        rw [h1] at this
        exact this)
      have hl : ltB ⟨x, y⟩ ⟨1, r⟩ = true := ltB_iff.2 (.inl (by dsimp only; omega))
      have hx1 : x < 1 := by omega
      have HXN := Lib.hid (HXA.out.alloc (.cells #[.int .i64 1, .int .i64 r] 40))
      have HLS := Lib.hid (less_of x y 1 r (w1.alloc (.cells #[.int .i64 1, .int .i64 r] 40)))
      rw [hl] at HLS
      have HN := Lib.hid (HNEW.out (.cells #[.int .i64 1, .int .i64 r] 40))
      have HR2 := Lib.hid (keep_rowB ((Ext.refl w1).alloc (.cells #[.int .i64 1, .int .i64 r] 40)) HR2.out)
      clear hx0 hy0
      clear hl hk
      go_wp2_with fail
      refine HLS.out.mono ?_
      rintro e w2 ⟨rfl, hx⟩
      have HN := Lib.hid (keep_rowB hx HN.out)
      have HR2 := Lib.hid (keep_rowB hx HR2.out)
      have HXN := Lib.hid (HXN.out.trans hx)
      clear hx q0 q1 c0 c1 c2 c3
      obtain ⟨n0, n1, n2, n3⟩ := bal_row HN.out
      obtain ⟨d0, d1, d2, d3⟩ := bal_row HR2.out
      go_wp2_with fail
      obtain ⟨f0, f1, _, _⟩ := bal_row (bal_store 1 r HR2.out)
      refine bodyPost_ret (v := .tuple #[.agg #[.int .i64 1, .int .i64 r], .int .i64 0]) (by simp [results, Try.results32, go_sem, f0, f1]) rfl ?_
      have hbb := HB0.out
      exact ⟨by rw [← HAN.out.1, ← HAN.out.2], (HXN.out.setCell (p := ⟨b0 + 1, 0, none⟩) (by show w.heap.size ≤ b0 + 1; omega) _).setCell (p := ⟨b0 + 1, 1, none⟩) (by show w.heap.size ≤ b0 + 1; omega) _⟩
    · have hx1 : ¬ x < 1 := by omega
      have hxm : x ≤ 1099511627776 := by omega
      have hgt : ¬ 1099511627776 < x := by omega
      by_cases hyr : y < r
      · have HAN : Hid ((⟨x, r⟩ : Bal) = B ∧ (0 : Int) = E) := Lib.hid (by
          have h1 : roundB ⟨x, y⟩ r = x := by unfold roundB; rw [if_neg hx0, if_pos hyr]
          have := HNX.out
          rw [h1, if_pos hxm, if_pos hxm] at this
          exact this)
        have hl : ltB ⟨x, y⟩ ⟨x, r⟩ = true := ltB_iff.2 (.inr ⟨rfl, hyr⟩)
        have HXN := Lib.hid (HXA.out.alloc (.cells #[.int .i64 x, .int .i64 r] 40))
        have HLS := Lib.hid (less_of x y x r (w1.alloc (.cells #[.int .i64 x, .int .i64 r] 40)))
        rw [hl] at HLS
        have HN := Lib.hid (HNEW.out (.cells #[.int .i64 x, .int .i64 r] 40))
        have HR2 := Lib.hid (keep_rowB ((Ext.refl w1).alloc (.cells #[.int .i64 x, .int .i64 r] 40)) HR2.out)
        clear hx0 hyr
        clear hl hk
        go_wp2_with fail
        refine HLS.out.mono ?_
        rintro e w2 ⟨rfl, hx⟩
        have HN := Lib.hid (keep_rowB hx HN.out)
        have HR2 := Lib.hid (keep_rowB hx HR2.out)
        have HXN := Lib.hid (HXN.out.trans hx)
        clear hx q0 q1 c0 c1 c2 c3
        obtain ⟨n0, n1, n2, n3⟩ := bal_row HN.out
        obtain ⟨d0, d1, d2, d3⟩ := bal_row HR2.out
        go_wp2_with fail
        obtain ⟨f0, f1, _, _⟩ := bal_row (bal_store x r HR2.out)
        refine bodyPost_ret (v := .tuple #[.agg #[.int .i64 x, .int .i64 r], .int .i64 0]) (by simp [results, Try.results32, go_sem, f0, f1]) rfl ?_
        have hbb := HB0.out
        exact ⟨by rw [← HAN.out.1, ← HAN.out.2], (HXN.out.setCell (p := ⟨b0 + 1, 0, none⟩) (by show w.heap.size ≤ b0 + 1; omega) _).setCell (p := ⟨b0 + 1, 1, none⟩) (by show w.heap.size ≤ b0 + 1; omega) _⟩
      · have hl : ltB ⟨x, y⟩ ⟨x, r⟩ = false := ltB_not.2 (by dsimp only; omega)
        have h1 : roundB ⟨x, y⟩ r = x + 1 := by unfold roundB; rw [if_neg hx0, if_neg hyr]
        have HNX2 := HNX.out
        rw [h1] at HNX2
        have HN2 := Lib.hid HNX2
        clear HNX2 h1
        by_cases hm : x + 1 ≤ 1099511627776
        · have hm2 : ¬ 1099511627776 < x + 1 := by omega
          have HAN : Hid ((⟨x + 1, r⟩ : Bal) = B ∧ (0 : Int) = E) := Lib.hid (by
            have := HN2.out
            rw [if_pos hm, if_pos hm] at this
            exact this)
          have HXN := Lib.hid (HXA.out.alloc (.cells #[.int .i64 x, .int .i64 r] 40))
          have HLS := Lib.hid (less_of x y x r (w1.alloc (.cells #[.int .i64 x, .int .i64 r] 40)))
          rw [hl] at HLS
          have HN := Lib.hid (HNEW.out (.cells #[.int .i64 x, .int .i64 r] 40))
          have HR2 := Lib.hid (keep_rowB ((Ext.refl w1).alloc (.cells #[.int .i64 x, .int .i64 r] 40)) HR2.out)
          clear hx0 hyr hm
          clear hl hk
          go_wp2_with fail
          refine HLS.out.mono ?_
          rintro e w2 ⟨rfl, hx⟩
          have HN := Lib.hid (keep_rowB hx HN.out)
          have HR2 := Lib.hid (keep_rowB hx HR2.out)
          have HXN := Lib.hid (HXN.out.trans hx)
          clear hx q0 q1 c0 c1 c2 c3
          obtain ⟨n0, n1, n2, n3⟩ := bal_row HN.out
          obtain ⟨d0, d1, d2, d3⟩ := bal_row HR2.out
          go_wp2_with fail
          have HR2n := Lib.hid (one_stored (v := .int .i64 (x + 1)) (i := 0) (show b0 + 1 ≠ nb by omega) HR2.out)
          obtain ⟨f0, f1, _, _⟩ := bal_row (bal_store (x + 1) r HR2n.out)
          refine bodyPost_ret (v := .tuple #[.agg #[.int .i64 (x + 1), .int .i64 r], .int .i64 0]) (by simp [results, Try.results32, go_sem, f0, f1]) rfl ?_
          have hbb := HB0.out
          exact ⟨by rw [← HAN.out.1, ← HAN.out.2], ((HXN.out.setCell (p := ⟨nb, 0, none⟩) (by show w.heap.size ≤ nb; omega) _).setCell (p := ⟨b0 + 1, 0, none⟩) (by show w.heap.size ≤ b0 + 1; omega) _).setCell (p := ⟨b0 + 1, 1, none⟩) (by show w.heap.size ≤ b0 + 1; omega) _⟩
        · have hm2 : 1099511627776 < x + 1 := by omega
          have HAN : Hid ((⟨0, 0⟩ : Bal) = B ∧ (4 : Int) = E) := Lib.hid (by
            have := HN2.out
            rw [if_neg hm, if_neg hm] at this
            exact this)
          have HXN := Lib.hid (HXA.out.alloc (.cells #[.int .i64 x, .int .i64 r] 40))
          have HLS := Lib.hid (less_of x y x r (w1.alloc (.cells #[.int .i64 x, .int .i64 r] 40)))
          rw [hl] at HLS
          have HN := Lib.hid (HNEW.out (.cells #[.int .i64 x, .int .i64 r] 40))
          have HR2 := Lib.hid (keep_rowB ((Ext.refl w1).alloc (.cells #[.int .i64 x, .int .i64 r] 40)) HR2.out)
          clear hx0 hyr hm
          clear hl hk
          go_wp2_with fail
          refine HLS.out.mono ?_
          rintro e w2 ⟨rfl, hx⟩
          have HN := Lib.hid (keep_rowB hx HN.out)
          have HR2 := Lib.hid (keep_rowB hx HR2.out)
          have HXN := Lib.hid (HXN.out.trans hx)
          clear hx q0 q1 c0 c1 c2 c3
          obtain ⟨n0, n1, n2, n3⟩ := bal_row HN.out
          obtain ⟨d0, d1, d2, d3⟩ := bal_row HR2.out
          go_wp2_with fail
          have HR2n := Lib.hid (one_stored (v := .int .i64 (x + 1)) (i := 0) (show b0 + 1 ≠ nb by omega) HR2.out)
          obtain ⟨f0, f1, _, _⟩ := bal_row (bal_store 0 0 HR2n.out)
          refine bodyPost_ret (v := .tuple #[.agg #[.int .i64 0, .int .i64 0], .int .i64 4]) (by simp [results, Try.results32, go_sem, f0, f1]) rfl ?_
          have hbb := HB0.out
          exact ⟨by rw [← HAN.out.1, ← HAN.out.2], ((HXN.out.setCell (p := ⟨nb, 0, none⟩) (by show w.heap.size ≤ nb; omega) _).setCell (p := ⟨b0 + 1, 0, none⟩) (by show w.heap.size ≤ b0 + 1; omega) _).setCell (p := ⟨b0 + 1, 1, none⟩) (by show w.heap.size ≤ b0 + 1; omega) _⟩
end
section
open Go Go.RowKit
theorem bal_neq (x y x' y' : Int) (w : World) : (binOp .neq 40 (.agg #[.int .i64 x, .int .i64 y]) (.agg #[.int .i64 x', .int .i64 y'])).run Try.prog w = .ok (.bool (!decide (x = x' ∧ y = y'))) w := by
  have hf : Try.prog.stoodInHeld 40 = false := by kernel_rfl
  have hu := Try.underlying40
  rw [run_neq_struct, run_equalIn_agg _ _ _ _ _ (by rw [Program.fieldsOf, hu]) hf, Program.fieldsOf, hu]
  simp [Op.eqFields, go_sem]
  by_cases h1 : x = x'
  · by_cases h2 : y = y'
    · simp [h1, h2]
    · simp [h1, h2]
  · simp [h1]
end
section
open Go Go.RowKit
abbrev eA (e : Ent) : Value := .agg #[.int .u8 (e.k : Int), .int .i64 e.cl, .int .i64 e.sq, .int .u8 (e.ok : Int), .string e.key, .string e.old, .string e.val]
theorem split_atR {L : List Rpt} {j : Nat} {r : Rpt} (h : L[j]? = some r) : L = L.take j ++ r :: L.drop (j + 1) := by
  obtain ⟨hj, e⟩ := List.getElem?_eq_some_iff.1 h
  rw [← e, ← List.drop_eq_getElem_cons hj, List.take_append_drop]
theorem maxR_ge {L : List Rpt} {g : Bal} (hg : maxB (L.map Rpt.b) = g) : ∀ x ∈ L, ltB g x.b = false := fun x hx => by
  rw [← hg]
  exact maxB_ge (List.mem_map.2 ⟨x, hx, rfl⟩)
theorem maxR_mem {L : List Rpt} {g : Bal} (hg : maxB (L.map Rpt.b) = g) (hL : L ≠ []) : ∃ x ∈ L, x.b = g := by
  have := maxB_mem (l := L.map Rpt.b) (by simpa using hL)
  rw [hg] at this
  exact List.mem_map.1 this
theorem count_splitR (L : List Rpt) (p : Rpt → Bool) : L.countP p + (L.filter fun r => !p r).length = L.length := by
  induction L with
  | nil => rfl
  | cons a L ih =>
    rw [List.countP_cons, List.filter_cons, List.length_cons]
    cases p a <;> simp <;> omega
set_option maxHeartbeats 3000000 in
theorem descend_of (A : Option Addr) (n c : Nat) (l : List Rpt) (lim : Nat) (w : World) (h : Ls rptC 11 w w.heap.size A n c l) (hn : n ≤ 20) (hlim : lim ≤ 100) :
    Calls Try.prog 22 #[.slice A n c, .int .i64 (lim : Int)] w fun e w' => e = .returned (.tuple #[.int .u8 ((ansR lim (l.countP unkR) (l.filter hasR)).1 : Int), eA (ansR lim (l.countP unkR) (l.filter hasR)).2]) ∧ Ext w w' := by
  obtain ⟨R, hR⟩ : ∃ R, ansR lim (l.countP unkR) (l.filter hasR) = R := ⟨_, rfl⟩
  obtain ⟨i0, hi, hz0, hz1, hz2⟩ := info_parts report_info
  obtain ⟨W0, hW0⟩ : ∃ W0, (w.alloc (.cells #[.int .u8 0, .int .i64 0, .int .i64 0, .int .u8 0, .string ⟨#[]⟩, .string ⟨#[]⟩, .string ⟨#[]⟩] 27)).alloc (.cells #[.int .u8 0, .int .i64 0, .int .i64 0, .int .u8 0, .string ⟨#[]⟩, .string ⟨#[]⟩, .string ⟨#[]⟩] 27) = W0 := ⟨_, rfl⟩
  have hE : Ext w W0 := by rw [← hW0]; exact ((Ext.refl w).alloc _).alloc _
  have hr0 : W0.heap[w.heap.size]? = some (.cells #[.int .u8 0, .int .i64 0, .int .i64 0, .int .u8 0, .string ⟨#[]⟩, .string ⟨#[]⟩, .string ⟨#[]⟩] 27 (0, 0)) := by
    rw [← hW0]
    exact (((Ext.refl _).alloc _).block _ (by simp)).trans (heap_alloc_new w _)
  have hr1 : W0.heap[w.heap.size + 1]? = some (.cells #[.int .u8 0, .int .i64 0, .int .i64 0, .int .u8 0, .string ⟨#[]⟩, .string ⟨#[]⟩, .string ⟨#[]⟩] 27 (0, 0)) := by
    have e : (w.alloc (.cells #[.int .u8 0, .int .i64 0, .int .i64 0, .int .u8 0, .string ⟨#[]⟩, .string ⟨#[]⟩, .string ⟨#[]⟩] 27)).heap.size = w.heap.size + 1 := by simp
    rw [← hW0, ← e]
    exact heap_alloc_new _ _
  have hl0 := (h.below hE).moreB hE.size
  have hC1 := only_of (.inl rfl) cunk_of A n c l W0 hl0 hn
  have hcn : (l.filter unkR).length = l.countP unkR := (List.countP_eq_length_filter).symm
  have hlen := h.len
  have HL := Lib.hid hl0
  have HC1 := Lib.hid hC1
  have HE := Lib.hid (And.intro hE (And.intro hr0 hr1))
  have HR := Lib.hid hR
  have HCN := Lib.hid hcn
  have HLN := Lib.hid hlen
  have HW0 := Lib.hid hW0
  rw [hR]
  clear hW0 h hE hr0 hr1 hl0 hC1 hcn hlen hR
  go_enter Try.func22, Try.ntmps22
  go_upto_region 1 with (fail)
  go_step3
  go_upto_region 2 with (fail)
  rw [HW0.out]
  obtain ⟨b, hb⟩ : ∃ b, w.heap.size = b := ⟨_, rfl⟩
  rw [hb] at HE ⊢
  have HB := Lib.hid hb
  clear hb HW0
  go_wp2_with fail
  refine HC1.out.mono ?_
  rintro _ w1 ⟨v1, rfl, ho1, hx1⟩
  obtain ⟨A1, c1, rfl, _⟩ := Ls.of_own (cells := rptC) (fun _ => rfl) (by omega) ho1
  have HL1 := Lib.hid ((HL.out.below hx1).moreB hx1.size)
  have HE1 := Lib.hid (And.intro (HE.out.1.trans hx1) (And.intro (keep_rowB hx1 HE.out.2.1) (keep_rowB hx1 HE.out.2.2)))
  have hkk : (l.filter unkR).length ≤ 20 := Nat.le_trans (List.length_filter_le _ _) (by have := HLN.out; omega)
  rw [HCN.out] at hkk ⊢
  clear ho1 hx1
  go_wp2_with fail
  refine (only_of (.inr rfl) chas_of _ _ _ _ _ HL1.out hn).mono ?_
  rintro _ w2 ⟨v2, rfl, ho2, hx2⟩
  obtain ⟨A2, c2, rfl, hl2⟩ := Ls.of_own (cells := rptC) (fun _ => rfl) (by omega) ho2
  have HE2 := Lib.hid (And.intro (HE1.out.1.trans hx2) (And.intro (keep_rowB hx2 HE1.out.2.1) (keep_rowB hx2 HE1.out.2.2)))
  have HL2 := Lib.hid hl2
  have hln : (l.filter hasR).length ≤ 20 := Nat.le_trans (List.length_filter_le _ _) (by have := HLN.out; omega)
  have HST : Hid (∀ x ∈ l.filter hasR, x.st = 2 ∨ x.st = 3) := Lib.hid fun x hx => hasR_iff.1 (List.mem_filter.1 hx).2
  obtain ⟨L0, hL0⟩ : ∃ L0, l.filter hasR = L0 := ⟨_, rfl⟩
  obtain ⟨k0, hk0⟩ : ∃ k0, l.countP unkR = k0 := ⟨_, rfl⟩
  rw [hL0] at HR HL2 HST hln ⊢
  rw [hk0] at HR hkk ⊢
  clear ho2 hx2 hl2 hL0 hk0 HC1 HE HE1 HL HL1 HCN
  go_wp2_with fail
  go_step3
  go_wp2_with fail
  go_loopw [6, 8, 9] (fun q m v wr => ∃ (k : Nat) (L : List Rpt) (A : Option Addr) (c : Nat), q = .int .u8 0 ∧ m = .int .i64 (k : Int) ∧ v = .slice A L.length c ∧ L.length ≤ 20 ∧ k + L.length ≤ 40 ∧ Hid (Ls rptC 11 wr wr.heap.size A L.length c L ∧ ansR lim k L = R ∧ ∀ x ∈ L, x.st = 2 ∨ x.st = 3) ∧ Hid (Ext w wr ∧ wr.heap[b]? = some (.cells #[.int .u8 0, .int .i64 0, .int .i64 0, .int .u8 0, .string ⟨#[]⟩, .string ⟨#[]⟩, .string ⟨#[]⟩] 27 (0, 0)) ∧ wr.heap[b + 1]? = some (.cells #[.int .u8 0, .int .i64 0, .int .i64 0, .int .u8 0, .string ⟨#[]⟩, .string ⟨#[]⟩, .string ⟨#[]⟩] 27 (0, 0)))) (fun _ _ v _ => lenOf v)
  case atStart => exact ⟨k0, L0, A2, c2, rfl, rfl, rfl, hln, by omega, Lib.hid ⟨HL2.out, HR.out, HST.out⟩, HE2⟩
  case round =>
    obtain ⟨k, L, A, c, rfl, rfl, rfl, hll, hkl, HLL, HG⟩ := hrel
    by_cases hlt : k < lim
    · by_cases hL : L.length = 0
      · have HA : Hid (ansR lim k L = (1, noopE)) := Lib.hid (by rw [List.eq_nil_of_length_eq_zero hL]; exact ansR_nil hlt)
        obtain ⟨_, e0, e1, e2, e3, e4, e5, e6⟩ := ent_row HG.out.2.2
        rw [hL]
        clear hL
        go_upto_region 18 with (fail)
        change Code.wp _ _ _ _ (S7 wr (b + 1) noopE)
        have HV : Hid (Ext w (S7 wr (b + 1) noopE) ∧ (S7 wr (b + 1) noopE).heap[b]? = some (.cells #[.int .u8 0, .int .i64 0, .int .i64 0, .int .u8 0, .string ⟨#[]⟩, .string ⟨#[]⟩, .string ⟨#[]⟩] 27 (0, 0)) ∧ (S7 wr (b + 1) noopE).heap[b + 1]? = some (.cells #[.int .u8 (noopE.k : Int), .int .i64 noopE.cl, .int .i64 noopE.sq, .int .u8 (noopE.ok : Int), .string noopE.key, .string noopE.old, .string noopE.val] 27 (0, 0))) :=
          Lib.hid ⟨S7.ext noopE HG.out.1 (by rw [HB.out]; omega), S7.off noopE (by omega) HG.out.2.1, S7.row noopE HG.out.2.2⟩
        generalize (S7 wr (b + 1) noopE) = V7 at *
        clear e0 e1 e2 e3 e4 e5 e6
        obtain ⟨⟨d0, d1, d2, d3, d4, d5, d6⟩, e0, e1, e2, e3, e4, e5, e6⟩ := ent_row HV.out.2.1
        obtain ⟨⟨f0, f1, f2, f3, f4, f5, f6⟩, _⟩ := ent_row HV.out.2.2
        go_wp2_with fail
        go_region
        change Exit.then _ _ _ _ ((S7 V7 b (noopE : Ent)).drew)
        have hrw := keep_rowB ((Ext.refl (S7 V7 b (noopE : Ent))).drew) (S7.row noopE HV.out.2.1)
        have hxw : Ext w ((S7 V7 b (noopE : Ent)).drew) := (S7.ext noopE HV.out.1 (by rw [HB.out]; exact Nat.le_refl _)).drew
        generalize (S7 V7 b (noopE : Ent)).drew = V9 at hrw hxw ⊢
        clear d0 d1 d2 d3 d4 d5 d6 e0 e1 e2 e3 e4 e5 e6 f0 f1 f2 f3 f4 f5 f6
        have HRW := Lib.hid hrw
        have HXW := Lib.hid hxw
        clear hrw hxw
        go_wp2_with fail
        try rw [Exit.noGoto_ret]
        obtain ⟨⟨d0, d1, d2, d3, d4, d5, d6⟩, _⟩ := ent_row HRW.out
        refine bodyPost_ret (v := .tuple #[.int .u8 1, eA noopE]) (by simp [results, Try.results22, go_sem, d0, d1, d2, d3, d4, d5, d6]) rfl ?_
        refine ⟨?_, HXW.out⟩
        rw [← HLL.out.2.1, HA.out]
        rfl
      · have hL1 : ((L.length : Int) == 0) = false := by simpa using hL
        have HLN0 : Hid (L ≠ []) := Lib.hid fun e => hL (by rw [e]; rfl)
        have hcp := HLL.out.1.cap
        have HGC := Lib.hid (greatest_of A L.length c L wr HLL.out.1 hll)
        obtain ⟨G, hGG⟩ : ∃ G, maxB (L.map Rpt.b) = G := ⟨_, rfl⟩
        obtain ⟨gx, gy⟩ := G
        rw [hGG] at HGC
        have HVL : Hid (∀ (j : Nat) (r : Rpt), L[j]? = some r → r.st = 2 → r.b = ⟨gx, gy⟩ → (∀ x ∈ L.take j, x.b = ⟨gx, gy⟩ → x.st ≠ 2) → ansR lim k L = (2, r.e)) := Lib.hid fun j r hj hr hrb h1 => by
          have hs := split_atR hj
          rw [hs]
          refine ansR_value hlt hr (fun x hx => ?_) fun x hx hxe => h1 x hx (hxe.trans hrb)
          rw [← hs] at hx
          rw [hrb]
          exact maxR_ge hGG x hx
        have HNX : Hid ((∀ x ∈ L, x.b = ⟨gx, gy⟩ → x.st ≠ 2) → ansR lim (k + L.countP fun r => eqB r.b ⟨gx, gy⟩) (L.filter fun r => !eqB r.b ⟨gx, gy⟩) = R) := Lib.hid fun h1 => by
          rw [← ansR_next hlt HLL.out.2.2 (maxR_ge hGG) h1 (maxR_mem hGG HLN0.out)]
          exact HLL.out.2.1
        have HCT := Lib.hid (count_splitR L fun r => eqB r.b ⟨gx, gy⟩)
        have HPOS : Hid (0 < L.countP fun r => eqB r.b ⟨gx, gy⟩) := Lib.hid (by
          obtain ⟨x, hx, hxe⟩ := maxR_mem hGG HLN0.out
          exact List.countP_pos_iff.2 ⟨x, hx, eqB_iff.2 hxe⟩)
        clear hGG hL
        go_wp2_with fail
        refine HGC.out.mono ?_
        rintro _ w3 ⟨rfl, hx3⟩
        have hls3 := (HLL.out.1.below hx3).moreB hx3.size
        have HZ3 := Lib.hid (And.intro (HG.out.1.trans hx3) (And.intro (keep_rowB hx3 HG.out.2.1) (keep_rowB hx3 HG.out.2.2)))
        have HL3 := Lib.hid hls3
        clear hls3 hx3 HGC
        go_upto_region 7 with (fail)
        have hg4 := heap_alloc_new w3 (.cells #[.int .i64 gx, .int .i64 gy] 40)
        have hx4 := (Ext.refl w3).alloc (.cells #[.int .i64 gx, .int .i64 gy] 40)
        generalize (w3.alloc (.cells #[.int .i64 gx, .int .i64 gy] 40)) = W4 at *
        have HZ := Lib.hid (And.intro (HZ3.out.1.trans hx4) (And.intro (keep_rowB hx4 HZ3.out.2.1) (keep_rowB hx4 HZ3.out.2.2)))
        have HLS := Lib.hid ((HL3.out.below hx4).moreB hx4.size)
        have HGR := Lib.hid hg4
        generalize w3.heap.size = gb at *
        clear hg4 hx4 HL3 HZ3
        go_wp2_with fail
        go_loopw [6, 8, 11, 31] (fun q m v' i wr => ∃ (j : Nat) (v : Value), v = v' ∧ j ≤ L.length ∧ q = .int .u8 0 ∧ i = .int .i64 (j : Int) ∧ m = .int .i64 ((k + (L.take j).countP (fun r => eqB r.b ⟨gx, gy⟩) : Nat) : Int) ∧ Hid (wr.ownsRow W4.heap.size 54 11 v ((L.take j).filter fun r => !eqB r.b ⟨gx, gy⟩).length (((L.take j).filter fun r => !eqB r.b ⟨gx, gy⟩).flatMap rptC) ∧ Ext W4 wr ∧ ∀ x ∈ L.take j, x.b = ⟨gx, gy⟩ → x.st ≠ 2)) (fun _ _ _ i _ => L.length - (intOf i).toNat)
        case atStart => exact ⟨0, _, rfl, Nat.zero_le _, rfl, rfl, by simp, Lib.hid ⟨World.ownsRow_nil _ _ _ _, Ext.refl _, fun x hx => by simp at hx⟩⟩
        case round =>
          obtain ⟨j, v, rfl, hj, rfl, rfl, rfl, HI⟩ := hrel
          by_cases hlt2 : j < L.length
          · obtain ⟨g, o, r, rfl, hgs, hb, hrc⟩ := Ls.rpt (HLS.out.below HI.out.2.1) hlt2
            obtain ⟨ix, st, rx, ry, e⟩ := r
            have HBR := Lib.hid hb
            have HTK := Lib.hid (take_oneR hb)
            have hml : ((L.take j).filter fun r => !eqB r.b ⟨gx, gy⟩).length ≤ 20 := Nat.le_trans (List.length_filter_le _ _) (by rw [List.length_take]; omega)
            have hct : (L.take j).countP (fun r => eqB r.b ⟨gx, gy⟩) ≤ 20 := Nat.le_trans List.countP_le_length (by rw [List.length_take]; omega)
            obtain ⟨c0, c1, c2, c3, c4, c5, c6, c7, c8, c9, c10⟩ := hrc
            dsimp only at c0 c1 c2 c3 c4 c5 c6 c7 c8 c9 c10
            clear hb
            go_upto_region 12 with (fail)
            clear c0 c1 c2 c3 c4 c5 c6 c7 c8 c9 c10
            have hq2 : (wr.alloc (.cells #[.int .i64 ix, .int .u8 (st : Int), .int .i64 rx, .int .i64 ry, .int .u8 (e.k : Int), .int .i64 e.cl, .int .i64 e.sq, .int .u8 (e.ok : Int), .string e.key, .string e.old, .string e.val] 54)).heap[wr.heap.size]? = some (.cells (rptC ⟨ix, st, rx, ry, e⟩).toArray 54 (0, 0)) := heap_alloc_new wr _
            have hx2 := (Ext.refl wr).alloc (.cells #[.int .i64 ix, .int .u8 (st : Int), .int .i64 rx, .int .i64 ry, .int .u8 (e.k : Int), .int .i64 e.cl, .int .i64 e.sq, .int .u8 (e.ok : Int), .string e.key, .string e.old, .string e.val] 54)
            generalize (wr.alloc (.cells #[.int .i64 ix, .int .u8 (st : Int), .int .i64 rx, .int .i64 ry, .int .u8 (e.k : Int), .int .i64 e.cl, .int .i64 e.sq, .int .u8 (e.ok : Int), .string e.key, .string e.old, .string e.val] 54)) = V at *
            have HI2 := Lib.hid (And.intro (ownsRow_extL HI.out.1 hx2) (And.intro (HI.out.2.1.trans hx2) HI.out.2.2))
            have HG2 := Lib.hid (keep_rowB HI2.out.2.1 HGR.out)
            have hsz := HI2.out.2.1.size
            obtain ⟨c0, c1, c2, c3, c4, c5, c6, c7, c8, c9, c10⟩ := RC0.of hq2
            dsimp only at c0 c1 c2 c3 c4 c5 c6 c7 c8 c9 c10
            obtain ⟨g0, g1, _⟩ := bal_row HG2.out
            generalize wr.heap.size = bb at *
            clear hx2 hq2
            have hneq := fun V => bal_neq rx ry gx gy V
            obtain ⟨q, hq⟩ : ∃ q, eqB (⟨rx, ry⟩ : Bal) ⟨gx, gy⟩ = q := ⟨_, rfl⟩
            have hq' : decide (rx = gx ∧ ry = gy) = q := hq
            rw [hq'] at hneq
            have HQ := Lib.hid hq
            clear hq hq'
            cases q with
            | false =>
              try dsimp only [Bool.not_false] at hneq
              go_wp2_with (at_builtin; revert c0)
              intro c0
              refine wpList_append_own _ rfl _ _ 22 rfl W4.heap.size 54 i0 (.agg #[.int .i64 0, .int .u8 0, .int .i64 0, .int .i64 0, .int .u8 0, .int .i64 0, .int .i64 0, .int .u8 0, .string ByteArray.empty, .string ByteArray.empty, .string ByteArray.empty]) 11 112 Try.underlying22 hi hz0 hz1 hz2 ?_ ?_ _ _ _ ?_ (ownsRow_extL HI2.out.1 ((Ext.refl V).alloc _)) ⟨V.heap.size, 0, none⟩ 1 1 (rptC ⟨ix, st, rx, ry, e⟩) ?_ ?_ ?_ ?_ ?_ ?_ ?_ ?_
              case refine_1 => rfl
              case refine_2 => decide
              case refine_3 => rfl
              case refine_4 => rfl
              case refine_5 => rfl
              case refine_6 => exact cells_newR _ _ _
              case refine_7 => exact rptC_one _
              case refine_8 => unfold maxLen; omega
              case refine_9 => omega
              case refine_10 => (simp; omega)
              intro v1 w5 hown hg _
              have HI3 : Hid (w5.ownsRow W4.heap.size 54 11 v1 ((L.take (j + 1)).filter fun r => !eqB r.b ⟨gx, gy⟩).length (((L.take (j + 1)).filter fun r => !eqB r.b ⟨gx, gy⟩).flatMap rptC) ∧ Ext W4 w5 ∧ ∀ x ∈ L.take (j + 1), x.b = ⟨gx, gy⟩ → x.st ≠ 2) := by
                refine Lib.hid ⟨?_, Below.grown (HI2.out.2.1.alloc _) hg (Nat.le_trans HI2.out.2.1.size (by simp)) (fun g hg' => (HI2.out.1.lt g hg').1), ?_⟩
                · rw [HTK.out, List.filter_append, List.filter_cons_of_pos (by show (!eqB (⟨rx, ry⟩ : Bal) ⟨gx, gy⟩) = true; rw [HQ.out]; rfl), List.filter_nil, List.length_append, List.flatMap_append, List.flatMap_cons, List.flatMap_nil, List.append_nil]
                  exact hown
                · intro x hx
                  rw [HTK.out, List.mem_append, List.mem_singleton] at hx
                  rcases hx with hx | rfl
                  · exact HI2.out.2.2 x hx
                  · intro hxe
                    have : eqB (⟨rx, ry⟩ : Bal) ⟨gx, gy⟩ = true := eqB_iff.2 hxe
                    rw [HQ.out] at this
                    cases this
              clear hown hg c0 c1 c2 c3 c4 c5 c6 c7 c8 c9 c10 hneq g0 g1
              go_wp2_with fail
              go_roundw
              case rel =>
                refine ⟨j + 1, _, rfl, by omega, rfl, by go_num, ?_, HI3⟩
                rw [HTK.out, List.countP_append, List.countP_cons, List.countP_nil]
                have : eqB (Rpt.b ⟨ix, st, rx, ry, e⟩) ⟨gx, gy⟩ = false := HQ.out
                rw [this]
                simp
              case measure => simp [intOf]; omega
            | true =>
              try dsimp only [Bool.not_true] at hneq
              have hbe : (⟨rx, ry⟩ : Bal) = ⟨gx, gy⟩ := eqB_iff.1 HQ.out
              have HBE := Lib.hid hbe
              clear hbe
              by_cases hs2 : st = 2
              · subst hs2
                have hv9 := keep_rowB HI2.out.2.1 HZ.out.2.2
                have hv8 := keep_rowB HI2.out.2.1 HZ.out.2.1
                obtain ⟨_, e0, e1, e2, e3, e4, e5, e6⟩ := ent_row hv9
                have HV8 := Lib.hid (And.intro hv8 hv9)
                clear hv8 hv9
                go_wp2_with fail
                go_region
                change Exit.then _ _ _ _ ((S7 V (b + 1) e).drew)
                have HV : Hid (Ext w ((S7 V (b + 1) e).drew) ∧ ((S7 V (b + 1) e).drew).heap[b]? = some (.cells #[.int .u8 0, .int .i64 0, .int .i64 0, .int .u8 0, .string ⟨#[]⟩, .string ⟨#[]⟩, .string ⟨#[]⟩] 27 (0, 0)) ∧ ((S7 V (b + 1) e).drew).heap[b + 1]? = some (.cells #[.int .u8 (e.k : Int), .int .i64 e.cl, .int .i64 e.sq, .int .u8 (e.ok : Int), .string e.key, .string e.old, .string e.val] 27 (0, 0))) :=
                  Lib.hid ⟨(S7.ext e (HZ.out.1.trans HI2.out.2.1) (by rw [HB.out]; omega)).drew, keep_rowB ((Ext.refl _).drew) (S7.off e (by omega) HV8.out.1), keep_rowB ((Ext.refl _).drew) (S7.row e HV8.out.2)⟩
                generalize ((S7 V (b + 1) e).drew) = V7 at *
                clear e0 e1 e2 e3 e4 e5 e6 c0 c1 c2 c3 c4 c5 c6 c7 c8 c9 c10 hneq g0 g1
                obtain ⟨⟨d0, d1, d2, d3, d4, d5, d6⟩, e0, e1, e2, e3, e4, e5, e6⟩ := ent_row HV.out.2.1
                obtain ⟨⟨f0, f1, f2, f3, f4, f5, f6⟩, _⟩ := ent_row HV.out.2.2
                go_wp2_with fail
                go_region
                change Exit.then _ _ _ _ ((S7 V7 b (e : Ent)).drew)
                have hrw := keep_rowB ((Ext.refl (S7 V7 b (e : Ent))).drew) (S7.row e HV.out.2.1)
                have hxw : Ext w ((S7 V7 b (e : Ent)).drew) := (S7.ext e HV.out.1 (by rw [HB.out]; exact Nat.le_refl _)).drew
                generalize (S7 V7 b (e : Ent)).drew = V9 at hrw hxw ⊢
                clear d0 d1 d2 d3 d4 d5 d6 e0 e1 e2 e3 e4 e5 e6 f0 f1 f2 f3 f4 f5 f6
                have HRW := Lib.hid hrw
                have HXW := Lib.hid hxw
                clear hrw hxw
                go_wp2_with fail
                try rw [Exit.noGoto_ret]
                obtain ⟨⟨d0, d1, d2, d3, d4, d5, d6⟩, _⟩ := ent_row HRW.out
                refine bodyPost_ret (v := .tuple #[.int .u8 2, eA e]) (by simp [results, Try.results22, go_sem, d0, d1, d2, d3, d4, d5, d6]) rfl ?_
                refine ⟨?_, HXW.out⟩
                rw [← HLL.out.2.1, HVL.out j ⟨ix, 2, rx, ry, e⟩ HBR.out rfl HBE.out HI2.out.2.2]
                rfl
              · have hd : ((st : Int) == 2) = false := by rw [st_is2]; exact decide_eq_false hs2
                have HS2 := Lib.hid hs2
                clear hs2
                have HI3 : Hid (V.ownsRow W4.heap.size 54 11 v ((L.take (j + 1)).filter fun r => !eqB r.b ⟨gx, gy⟩).length (((L.take (j + 1)).filter fun r => !eqB r.b ⟨gx, gy⟩).flatMap rptC) ∧ Ext W4 V ∧ ∀ x ∈ L.take (j + 1), x.b = ⟨gx, gy⟩ → x.st ≠ 2) := by
                  refine Lib.hid ⟨?_, HI2.out.2.1, ?_⟩
                  · rw [HTK.out, List.filter_append, List.filter_cons_of_neg (by show ¬ (!eqB (⟨rx, ry⟩ : Bal) ⟨gx, gy⟩) = true; rw [HQ.out]; decide), List.filter_nil, List.append_nil]
                    exact HI2.out.1
                  · intro x hx
                    rw [HTK.out, List.mem_append, List.mem_singleton] at hx
                    rcases hx with hx | rfl
                    · exact HI2.out.2.2 x hx
                    · exact fun _ => HS2.out
                go_wp2_with fail
                go_roundw
                case rel =>
                  refine ⟨j + 1, _, rfl, by omega, rfl, by go_num, ?_, HI3⟩
                  rw [HTK.out, List.countP_append, List.countP_cons, List.countP_nil]
                  have : eqB (Rpt.b ⟨ix, st, rx, ry, e⟩) ⟨gx, gy⟩ = true := HQ.out
                  rw [this]
                  go_num
                case measure => simp [intOf]; omega
          · obtain rfl : j = L.length := by omega
            rw [List.take_length] at HI
            obtain ⟨A5, c5, hv5, hl5⟩ := Ls.of_own (cells := rptC) (fun _ => rfl) (by omega) HI.out.1
            have HL5 := Lib.hid hl5
            have HN := Lib.hid (HNX.out HI.out.2.2)
            have HZ5 := Lib.hid (And.intro (HZ.out.1.trans HI.out.2.1) (And.intro (keep_rowB HI.out.2.1 HZ.out.2.1) (keep_rowB HI.out.2.1 HZ.out.2.2)))
            have hct : L.countP (fun r => eqB r.b ⟨gx, gy⟩) + (L.filter fun r => !eqB r.b ⟨gx, gy⟩).length = L.length := HCT.out
            have hpos : 0 < L.countP (fun r => eqB r.b ⟨gx, gy⟩) := HPOS.out
            rw [List.take_length]
            obtain ⟨K5, hK5⟩ : ∃ K5, L.countP (fun r => eqB r.b ⟨gx, gy⟩) = K5 := ⟨_, rfl⟩
            obtain ⟨M5, hM5⟩ : ∃ M5, (L.filter fun r => !eqB r.b ⟨gx, gy⟩) = M5 := ⟨_, rfl⟩
            have HST5 : Hid (∀ x ∈ M5, x.st = 2 ∨ x.st = 3) := Lib.hid fun x hx => HLL.out.2.2 x (by rw [← hM5] at hx; exact (List.mem_filter.1 hx).1)
            rw [hM5] at hv5 HL5 hct HN
            rw [hK5] at hct hpos HN ⊢
            subst hv5
            clear hl5 hK5 hM5
            go_wp2_with fail
            go_roundw
            case rel => exact ⟨k + K5, M5, A5, c5, rfl, by go_num, rfl, by omega, by omega, Lib.hid ⟨HL5.out, HN.out, HST5.out⟩, HZ5⟩
            case measure => simp [lenOf]; omega
    · have HA := Lib.hid (ansR_many (l := L) hlt)
      have HV := HG
      obtain ⟨⟨d0, d1, d2, d3, d4, d5, d6⟩, e0, e1, e2, e3, e4, e5, e6⟩ := ent_row HV.out.2.1
      obtain ⟨⟨f0, f1, f2, f3, f4, f5, f6⟩, _⟩ := ent_row HV.out.2.2
      go_wp2_with fail
      go_region
      change Exit.then _ _ _ _ ((S7 wr b ({} : Ent)).drew)
      have hrw := keep_rowB ((Ext.refl (S7 wr b ({} : Ent))).drew) (S7.row {} HV.out.2.1)
      have hxw : Ext w ((S7 wr b ({} : Ent)).drew) := (S7.ext {} HV.out.1 (by rw [HB.out]; exact Nat.le_refl _)).drew
      generalize (S7 wr b ({} : Ent)).drew = V9 at hrw hxw ⊢
      clear d0 d1 d2 d3 d4 d5 d6 e0 e1 e2 e3 e4 e5 e6 f0 f1 f2 f3 f4 f5 f6
      have HRW := Lib.hid hrw
      have HXW := Lib.hid hxw
      clear hrw hxw
      go_wp2_with fail
      try rw [Exit.noGoto_ret]
      obtain ⟨⟨d0, d1, d2, d3, d4, d5, d6⟩, _⟩ := ent_row HRW.out
      refine bodyPost_ret (v := .tuple #[.int .u8 0, eA {}]) (by simp [results, Try.results22, go_sem, d0, d1, d2, d3, d4, d5, d6]) rfl ?_
      refine ⟨?_, HXW.out⟩
      rw [← HLL.out.2.1, HA.out]
      rfl
end
section
open Go Go.RowKit
def mostQ (n : Int) : Nat := if n = 3 then 2 else if n = 5 then 3 else if n = 7 then 4 else 0
def hasQ (s : Nat) (i : Int) : Bool := decide (0 ≤ i ∧ i < 7) && s.testBit i.toNat
def addQ (s : Nat) (i : Int) : Nat := if 0 ≤ i ∧ i < 7 then s ||| 2 ^ i.toNat else s
def memQ (s n : Nat) : List Nat := (List.range n).filter s.testBit
def membersQ (s : Nat) (n : Int) : List Nat := if mostQ n = 0 then [] else memQ s n.toNat
def enoughQ (s : Nat) (n : Int) : Bool := decide (0 < mostQ n ∧ mostQ n ≤ (membersQ s n).length)
theorem memQ_succ (s n : Nat) : memQ s (n + 1) = if s.testBit n = true then memQ s n ++ [n] else memQ s n := by
  unfold memQ
  rw [List.range_succ, List.filter_append]
  split
  · rename_i h; simp [h]
  · rename_i h; simp [h]
theorem mostQ_cases {n : Int} (h : mostQ n ≠ 0) : n = 3 ∨ n = 5 ∨ n = 7 := by
  unfold mostQ at h
  split at h
  · left; assumption
  · split at h
    · right; left; assumption
    · split at h
      · right; right; assumption
      · exact absurd rfl h
theorem add_lt : ∀ a : Fin 256, ∀ i : Fin 7, a.1 ||| 2 ^ i.1 < 256 := by decide +kernel
end
section
open Go Go.RowKit
theorem mayHold_of (i : Int) (w : World) : Calls Try.prog 45 #[.int .i64 i] w fun e w' => e = .returned (.bool (decide (0 ≤ i ∧ i < 7))) ∧ w = w' := by
  obtain ⟨b, hb⟩ : ∃ b, decide (0 ≤ i ∧ i < 7) = b := ⟨_, rfl⟩
  rw [hb]
  have HB := Lib.hid hb
  clear hb
  by_cases h0 : 0 ≤ i
  · by_cases h1 : i < 7
    · have hb := HB.out
      rw [decide_eq_true ⟨h0, h1⟩] at hb
      subst hb
      go_enter Try.func45, Try.ntmps45
      go_wp2_with fail
      go_ret
      exact ⟨rfl, rfl⟩
    · have hb := HB.out
      rw [decide_eq_false fun h => h1 h.2] at hb
      subst hb
      go_enter Try.func45, Try.ntmps45
      go_wp2_with fail
      go_ret
      exact ⟨rfl, rfl⟩
  · have hb := HB.out
    rw [decide_eq_false fun h => h0 h.1] at hb
    subst hb
    go_enter Try.func45, Try.ntmps45
    go_wp2_with fail
    go_ret
    exact ⟨rfl, rfl⟩
theorem most_of (n : Int) (w : World) : Calls Try.prog 18 #[.int .i64 n] w fun e w' => e = .returned (.int .i64 (mostQ n : Int)) ∧ w = w' := by
  by_cases h3 : n = 3
  · subst h3
    go_enter Try.func18, Try.ntmps18
    go_wp2_with fail
    go_ret
    exact ⟨rfl, rfl⟩
  by_cases h5 : n = 5
  · subst h5
    go_enter Try.func18, Try.ntmps18
    go_wp2_with fail
    go_ret
    exact ⟨rfl, rfl⟩
  by_cases h7 : n = 7
  · subst h7
    go_enter Try.func18, Try.ntmps18
    go_wp2_with fail
    go_ret
    exact ⟨rfl, rfl⟩
  have HM := Lib.hid (show mostQ n = 0 by unfold mostQ; rw [if_neg h3, if_neg h5, if_neg h7])
  have e3 : (n == 3) = false := by simpa using h3
  have e5 : (n == 5) = false := by simpa using h5
  have e7 : (n == 7) = false := by simpa using h7
  clear h3 h5 h7
  go_enter Try.func18, Try.ntmps18
  go_wp2_with fail
  go_ret
  exact ⟨by rw [HM.out]; rfl, rfl⟩
theorem and_bit : ∀ s : Fin 256, ∀ k : Fin 7, (bits .and .u8 (s.1 : Int) ((2 : Int) ^ k.1 % 256) != 0) = s.1.testBit k.1 := by decide +kernel
theorem or_bit : ∀ s : Fin 256, ∀ k : Fin 7, bits .or .u8 (s.1 : Int) ((2 : Int) ^ k.1 % 256) = ((s.1 ||| 2 ^ k.1 : Nat) : Int) := by decide +kernel
theorem has_of (s : Nat) (hs : s < 256) (i : Int) (w : World) : Calls Try.prog 34 #[.int .u8 (s : Int), .int .i64 i] w fun e w' => e = .returned (.bool (hasQ s i)) ∧ w = w' := by
  have HM := Lib.hid (fun V => mayHold_of i V)
  by_cases h : 0 ≤ i ∧ i < 7
  · rw [decide_eq_true h] at HM
    obtain ⟨k, rfl⟩ : ∃ k : Nat, i = (k : Int) := ⟨i.toNat, by omega⟩
    have HH := Lib.hid (show hasQ s (k : Int) = s.testBit k by unfold hasQ; rw [decide_eq_true h]; rfl)
    have hk : k < 7 := by omega
    clear h
    go_enter Try.func34, Try.ntmps34
    go_wp2_with fail
    refine (HM.out _).mono ?_
    rintro e w1 ⟨rfl, rfl⟩
    go_wp2_with fail
    go_ret
    exact ⟨by rw [HH.out, ← and_bit ⟨s, hs⟩ ⟨k, by omega⟩]; rfl, rfl⟩
  · rw [decide_eq_false h] at HM
    have HH := Lib.hid (show hasQ s i = false by unfold hasQ; rw [decide_eq_false h]; rfl)
    clear h
    go_enter Try.func34, Try.ntmps34
    go_wp2_with fail
    refine (HM.out _).mono ?_
    rintro e w1 ⟨rfl, rfl⟩
    go_wp2_with fail
    go_ret
    exact ⟨by rw [HH.out]; rfl, rfl⟩
theorem addQ_lt {s : Nat} (hs : s < 256) (i : Int) : addQ s i < 256 := by
  unfold addQ
  split
  · rename_i h
    exact add_lt ⟨s, hs⟩ ⟨i.toNat, by omega⟩
  · exact hs
theorem add_of (s : Nat) (hs : s < 256) (i : Int) (w : World) : Calls Try.prog 33 #[.int .u8 (s : Int), .int .i64 i] w fun e w' => e = .returned (.int .u8 (addQ s i : Int)) ∧ w = w' := by
  have HM := Lib.hid (fun V => mayHold_of i V)
  by_cases h : 0 ≤ i ∧ i < 7
  · rw [decide_eq_true h] at HM
    obtain ⟨k, rfl⟩ : ∃ k : Nat, i = (k : Int) := ⟨i.toNat, by omega⟩
    have HH := Lib.hid (show addQ s (k : Int) = s ||| 2 ^ k by unfold addQ; rw [if_pos h]; rfl)
    have hk : k < 7 := by omega
    clear h
    go_enter Try.func33, Try.ntmps33
    go_wp2_with fail
    refine (HM.out _).mono ?_
    rintro e w1 ⟨rfl, rfl⟩
    go_wp2_with fail
    go_ret
    exact ⟨by rw [HH.out, ← or_bit ⟨s, hs⟩ ⟨k, by omega⟩]; rfl, rfl⟩
  · rw [decide_eq_false h] at HM
    have HH := Lib.hid (show addQ s i = s by unfold addQ; rw [if_neg h])
    clear h
    go_enter Try.func33, Try.ntmps33
    go_wp2_with fail
    refine (HM.out _).mono ?_
    rintro e w1 ⟨rfl, rfl⟩
    go_wp2_with fail
    go_ret
    exact ⟨by rw [HH.out]; rfl, rfl⟩
end
end Go.Proofs.Ytinflpheogglhaa
