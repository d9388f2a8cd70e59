/-
  The contracts of the document's tally's Count and Upto.
-/
import Derived.Test.YtmnldkfkcfnkdaaTlRef
namespace Go.Proofs.Ytmnldkfkcfnkdaa
open Go Go.RowKit Go.Maps

theorem AtT.cases {e : Ending} {L : List (Int × Nat)} (hL : OkT L) {k : Int} (h : AtT e L k) : (∃ (j : Nat), e = .returned (.int .i64 (j : Int)) ∧ L[j]? = some (k, lookT L k) ∧ lookT L k ≠ 0) ∨ (e = .returned (.int .i64 (-1)) ∧ lookT L k = 0) := by
  rcases h with ⟨j, s, he, hj⟩ | ⟨he, hn⟩
  · have hm := List.mem_of_getElem? hj
    have hs := lookT_of_mem hL.nod hm
    have := (hL.rng _ hm).2.2.1
    dsimp only at this
    exact .inl ⟨j, he, by rw [hs]; exact hj, by omega⟩
  · exact .inr ⟨he, lookT_none hn⟩
set_option maxRecDepth 100000 in
set_option maxHeartbeats 1600000 in
theorem rcount_of {w : World} {q n : Nat} {v : Value} {L : List (Int × Nat)} (z : RQ w q n v L) (k : Int) :
    Calls Try.prog 16 #[.pointer (some ⟨q, 0, none⟩), .int .i64 k] w fun e w' => e = .returned (.int .i64 (cntT n L k : Nat)) ∧ Ext w w' := by
  have HAT := Lib.hid (rat_of z k)
  have HZ := Lib.hid z
  obtain ⟨cn, hcn⟩ : ∃ cn, cntT (n : Int) L k = cn := ⟨_, rfl⟩
  rw [hcn]
  have HCN := Lib.hid hcn
  clear z hcn
  go_enter Try.func16, Try.ntmps16
  go_wp2_with fail
  refine HAT.out.mono ?_
  rintro e w1 ⟨hat, rfl⟩
  rcases hat.cases HZ.out.ok with ⟨j, rfl, hj, hne⟩ | ⟨rfl, h0⟩
  · have h64 := HZ.out.ok.most
    have hjl := (List.getElem?_eq_some_iff.1 hj).1
    have hj0 : ¬ (j : Int) < 0 := by omega
    obtain ⟨c0, c1⟩ := HZ.out.cells
    obtain ⟨g, cap, rfl, hB, hg, hcap, hmost, _, _, d1⟩ := HZ.out.at_ hj
    have HMem := Lib.hid (fun W => rmembers_of (lookT L k) (HZ.out.ok.look_lt k) (n : Int) W)
    have HC : Hid ((memI (lookT L k) (n : Int)).length = cn) := Lib.hid (by rw [← HCN.out]; exact cnt_len _ _)
    have hS0 : w.drew.cell? ⟨q, 0, none⟩ = some (.int .i64 (n : Int)) := c0
    have hS1 : w.drew.cell? ⟨q, 1, none⟩ = some (.slice (some ⟨g, 0, none⟩) L.length cap) := c1
    have hS2 : w.drew.cell? ⟨g, j * 2 + 1, none⟩ = some (.int .u8 (lookT L k : Int)) := d1
    have hji : (j : Int) < (L.length : Int) := by omega
    obtain ⟨s, hs⟩ : ∃ s, lookT L k = s := ⟨_, rfl⟩
    rw [hs] at HMem HC hS2
    clear hj hne hs hB hat HAT c0 c1 d1
    go_wp2_with fail
    go_region_held3 (fun w' => w'.cell? ⟨q, 0, none⟩ = some (.int .i64 (n : Int)) ∧ w'.cell? ⟨q, 1, none⟩ = some (.slice (some ⟨g, 0, none⟩) L.length cap) ∧ w'.cell? ⟨g, j * 2 + 1, none⟩ = some (.int .u8 (s : Int)))
      (first | with_reducible exact ⟨hS0, hS1, hS2⟩ | with_reducible exact hS4 | with_reducible assumption)
      (first | (go_at_call 34; ((with_reducible refine (HMem.out _).mono ?_); rintro e' w3 ⟨A, c, rfl, hL, hx⟩; have hS4 := And.intro (ext_cellT hx hS0) (And.intro (ext_cellT hx hS1) (ext_cellT hx hS2)))))
    go_wp2_with fail
    go_ret
    exact ⟨by rw [← HC.out]; rfl, (Ext.refl w).drew.trans hx⟩
  · have HC : Hid (cn = 0) := Lib.hid (by rw [← HCN.out]; exact cntT_zero h0)
    clear hat h0 HAT
    go_wp2_with fail
    go_ret
    exact ⟨by rw [HC.out]; rfl, Ext.refl w⟩
set_option maxRecDepth 100000 in
set_option maxHeartbeats 3200000 in
theorem rupto_of {w : World} {q n : Nat} {v : Value} {L : List (Int × Nat)} (z : RQ w q n v L) (a : Int) :
    Calls Try.prog 18 #[.pointer (some ⟨q, 0, none⟩), .int .i64 a] w fun e w' => e = .returned (.int .i64 (uptoT n L a)) ∧ Ext w w' := by
  have hout : a < 0 ∨ 1099511627776 < a → uptoT n L a = a := fun h => by
    have he : enT n L (a + 1) = false := by
      cases hc : enT n L (a + 1) with
      | false => rfl
      | true =>
        have := z.ok.look_in (enT_held hc)
        omega
    unfold uptoT
    rw [show runT (enT n L) a 65 = 0 by rw [runT, if_neg (by rw [he]; exact Bool.false_ne_true)]]
    omega
  by_cases q1 : a < 0
  · have HO := Lib.hid (hout (.inl q1))
    have d1 : decide (a < 0) = true := decide_eq_true q1
    clear z hout
    go_enter Try.func18, Try.ntmps18
    go_wp2_with fail
    go_ret
    exact ⟨by rw [HO.out]; rfl, Ext.refl w⟩
  by_cases q2 : 1099511627776 < a
  · have HO := Lib.hid (hout (.inr q2))
    have d1 : decide (a < 0) = false := decide_eq_false q1
    have d2 : decide (1099511627776 < a) = true := decide_eq_true q2
    clear z hout
    go_enter Try.func18, Try.ntmps18
    go_wp2_with fail
    go_ret
    exact ⟨by rw [HO.out]; rfl, Ext.refl w⟩
  have d1 : decide (a < 0) = false := decide_eq_false q1
  have d2 : decide (1099511627776 < a) = false := decide_eq_false q2
  have HZ := Lib.hid z
  clear z hout
  go_enter Try.func18, Try.ntmps18
  go_wp2_with fail
  go_loopw [1] (fun i wr => ∃ (j : Nat) (b : Int), i = .int .i64 b ∧ b = a + (j : Int) ∧ Hid (runT (enT n L) a 65 = j + runT (enT n L) (a + j) (65 - j)) ∧ Hid (Ext w wr)) (fun i _ => 65 - ((intOf i) - a).toNat)
  case atStart => exact ⟨0, a, rfl, by simp, Lib.hid (by simp), Lib.hid (Ext.refl _)⟩
  case round =>
    obtain ⟨j, b, rfl, hb, HR, HX⟩ := hrel
    have z := HZ.out.ext HX.out
    obtain ⟨c0, c1⟩ := z.cells
    obtain ⟨hj, hyes, hno⟩ := runT_step z.ok.most HR.out
    rw [← hb] at hyes hno
    have hwb : IntKind.i64.wrap (b + 1) = b + 1 := by rw [IntKind.wrap_i64]; omega
    have hb1 : 0 ≤ b := by omega
    have hb2 : b ≤ 1099511627776 + 64 := by omega
    have HCn := Lib.hid (rcount_of (z.ext (Ext.refl wr).drew) (b + 1))
    have hmo := (most_pos z.cnt).1
    have hen : decide (((mostQ (n : Int) : Nat) : Int) ≤ ((cntT (n : Int) L (b + 1) : Nat) : Int)) = enT n L (b + 1) := by
      unfold enT enoughQ
      rw [Bool.eq_iff_iff, decide_eq_true_iff, decide_eq_true_iff]
      unfold cntT
      constructor
      · intro h
        exact ⟨by omega, by omega⟩
      · intro h
        omega
    have HJ := Lib.hid (And.intro hj (And.intro hyes hno))
    have HBB := Lib.hid hb
    have hS0 : wr.drew.cell? ⟨q, 0, none⟩ = some (.int .i64 (n : Int)) := c0
    have HMo := Lib.hid (fun W => rmost_of (n : Int) W)
    obtain ⟨cn, hcn⟩ : ∃ cn, cntT (n : Int) L (b + 1) = cn := ⟨_, rfl⟩
    obtain ⟨mo, hmm⟩ : ∃ mo, mostQ (n : Int) = mo := ⟨_, rfl⟩
    rw [hcn] at HCn hen
    rw [hmm] at HMo hen
    obtain ⟨en, hn⟩ : ∃ en, enT n L (b + 1) = en := ⟨_, rfl⟩
    have HE := Lib.hid hn
    rw [hn] at hen
    have HD := Lib.hid hen
    clear z hj hyes hno hb hcn hmm hn hmo c0 c1 hen
    go_wp2_with fail
    go_region_held3 (fun w' => w'.cell? ⟨q, 0, none⟩ = some (.int .i64 (n : Int)))
      (first | with_reducible exact hS0 | with_reducible exact hS4 | with_reducible assumption)
      (first | (go_at_call 16; ((with_reducible refine HCn.out.mono ?_); rintro e' w3 ⟨rfl, hx⟩; have hS4 := ext_cellT hx hS0)) | (go_at_call 35; ((with_reducible refine (HMo.out _).mono ?_); rintro e' w4 ⟨rfl, rfl⟩)))
    have HX3 := Lib.hid (HX.out.trans ((Ext.refl wr).drew.trans hx))
    clear hx hS4 hS0
    cases en with
    | false =>
      have hu := HJ.out.2.2 HE.out
      have HU := Lib.hid hu
      have hle : ¬ (mo : Int) ≤ (cn : Int) := of_decide_eq_false HD.out
      have hle2 : ¬ mo ≤ cn := by omega
      have hle3 : cn < mo := by omega
      have dd : decide (mo ≤ cn) = false := decide_eq_false hle2
      clear hu
      go_wp2_with fail
      go_ret
      exact ⟨by rw [HU.out]; rfl, HX3.out⟩
    | true =>
      have hle : (mo : Int) ≤ (cn : Int) := of_decide_eq_true HD.out
      have hle2 : mo ≤ cn := by omega
      have dd : decide (mo ≤ cn) = true := decide_eq_true hle2
      go_wp2_with fail
      go_roundw
      case rel => exact ⟨j + 1, b + 1, rfl, by have := HBB.out; omega, Lib.hid (HJ.out.2.1 HE.out), HX3⟩
      case measure =>
        have h1 := HBB.out
        have h2 := HJ.out.1
        simp only [intOf]
        omega
end Go.Proofs.Ytmnldkfkcfnkdaa
