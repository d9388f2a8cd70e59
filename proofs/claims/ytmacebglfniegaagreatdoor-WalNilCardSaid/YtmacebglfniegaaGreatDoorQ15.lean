/-
  Plain facts on logs for the statements: what is told of an index, of all; puts in a row; puts that end anywhere.
  The contracts of what and look, Get and Class: what a slot is, and tells.
  The contracts of Get and Class.
  The contract of slot's Print, with that its body lies in memory of the call's own.
  The contract of Put.
  The contract of All where it tells an error.
  What a log that nobody made tells, and refuses.
-/
import Derived.Test.YtmacebglfniegaaGreatDoorQ09
import Derived.Test.YtmacebglfniegaaGreatDoorQ10
import Derived.Test.YtmacebglfniegaaGreatDoorQ12
import Derived.Test.YtmacebglfniegaaGreatDoorQ13
import Derived.Test.YtmacebglfniegaaGreatDoorQ14
import Derived.Deep.DeepCutAuto
namespace Go.Proofs.YtmacebglfniegaaGreatDoor
set_option maxRecDepth 100000

/-- A report. -/
structure Rpt where
  ix : Int := 0
  st : Nat := 0
  x : Int := 0
  y : Int := 0
  e : Ent := {}
/-- What is told of an index. -/
def DM.clsW (m : DM) (r i : Int) : Nat := classL (m.recM r (placeW i)) (m.copM r (2 * placeW i)) (m.copM r (2 * placeW i + 1)) i
def stateW (p : Rec) (f0 f1 : CopL) (i : Int) : Nat := if 0 ≤ whereL p f0 f1 i then 2 else if p.of i then 3 else if beyL p f0 f1 i ∨ (p.st = 2 ∧ badL f0 f1) then 4 else 1
def rptOf (p : Rec) (f0 f1 : CopL) (i : Int) : Rpt := ⟨i, stateW p f0 f1 i, repX p f0 f1 i, repY p f0 f1 i, repE p f0 f1 i⟩
def DM.rptW (m : DM) (r i : Int) : Rpt := rptOf (m.recM r (placeW i)) (m.copM r (2 * placeW i)) (m.copM r (2 * placeW i + 1)) i
theorem clsW_of {m : DM} {r i : Int} {q : Nat} (hq : placeW i = (q : Int)) : m.clsW r i = classL (m.recM r (q : Int)) (m.copM r ((2 * q : Nat) : Int)) (m.copM r ((2 * q + 1 : Nat) : Int)) i := by
  unfold DM.clsW
  rw [hq, show 2 * (q : Int) = ((2 * q : Nat) : Int) from by omega, show ((2 * q : Nat) : Int) + 1 = ((2 * q + 1 : Nat) : Int) from by omega]
theorem rptW_of {m : DM} {r i : Int} {q : Nat} (hq : placeW i = (q : Int)) : m.rptW r i = rptOf (m.recM r (q : Int)) (m.copM r ((2 * q : Nat) : Int)) (m.copM r ((2 * q + 1 : Nat) : Int)) i := by
  unfold DM.rptW
  rw [hq, show 2 * (q : Int) = ((2 * q : Nat) : Int) from by omega, show ((2 * q : Nat) : Int) + 1 = ((2 * q + 1 : Nat) : Int) from by omega]
theorem rpt_told {p : Rec} {f0 f1 : CopL} {i x y : Int} {e : Ent} (hc : classL p f0 f1 i = 3) (hx : repX p f0 f1 i = x) (hy : repY p f0 f1 i = y) (he : repE p f0 f1 i = e) : rptOf p f0 f1 i = ⟨i, 2, x, y, e⟩ := by
  unfold rptOf stateW
  rw [if_pos (classL_three.1 hc), hx, hy, he]
/-! ### Puts that end anywhere -/
theorem CD.putW {m : DM} (h : CD m (-1)) {r inc i x y : Int} {e : Ent} {q : Nat} (hq : placeW i = (q : Int)) (hq24 : q < 24) (hr : 0 ≤ r ∧ r ≤ 6) (hi : 0 ≤ i ∧ i ≤ 1099511627776) (hc : 1 ≤ inc ∧ inc ≤ 1099511627776) (hb : balE x y = true) (he : enOk e = true) :
    ∃ m', m.putW r inc i x y e = (0, m') ∧ CD m' (-1) ∧ (NInv m → NInv m') := by
  have hk := nextW_two m r i
  obtain ⟨p, hp, hp48⟩ : ∃ p : Nat, 2 * (q : Int) + m.nextW r i = (p : Int) ∧ p < 48 := ⟨(2 * (q : Int) + m.nextW r i).toNat, by omega, by omega⟩
  have m3 := mayW3 (q := q) hr hi hc hq24
  have m4 := mayW4 (p := p) hr hi hc hp48
  obtain ⟨s1, s2, sp⟩ := frmW_sects (x := x) (y := y) (e := e) m4 hb he
  have s3 := recW_sect (x := x) (y := y) m3 (recB_iff.2 ⟨balE_iff.1 hb, hk⟩)
  obtain ⟨m', e1, c1, n1, _⟩ := h.putK hq24 hp48 (k := m.nextW r i) (x := x) (y := y) (e := e) hp s1 s2 s3
  exact ⟨m', by unfold DM.putW; rw [hq]; exact e1, c1, n1⟩
theorem Tch.putW {m : DM} {pw : Int} (h : CD m pw) {r inc i x y : Int} {e : Ent} {q : Nat} (hq : placeW i = (q : Int)) (hq24 : q < 24) (hr : 0 ≤ r ∧ r ≤ 6) (hi : 0 ≤ i ∧ i ≤ 1099511627776) (hc : 1 ≤ inc ∧ inc ≤ 1099511627776) (hb : balE x y = true) (he : enOk e = true) :
    Tch (m.putW r inc i x y e).2 (slT q) m.hold := by
  have hk := nextW_two m r i
  obtain ⟨p, hp, hp48, hpc⟩ : ∃ p : Nat, 2 * (q : Int) + m.nextW r i = (p : Int) ∧ p < 48 ∧ (p = 2 * q ∨ p = 2 * q + 1) := ⟨(2 * (q : Int) + m.nextW r i).toNat, by omega, by omega, by omega⟩
  have m3 := mayW3 (q := q) hr hi hc hq24
  have m4 := mayW4 (p := p) hr hi hc hp48
  obtain ⟨s1, s2, sp⟩ := frmW_sects (x := x) (y := y) (e := e) m4 hb he
  have s3 := recW_sect (x := x) (y := y) m3 (recB_iff.2 ⟨balE_iff.1 hb, hk⟩)
  have h0 : Tch m (putT q p) m.hold := ⟨h.b.ok, h.b.size, h.b.down, (fun z hz => by rw [h.b.waits] at hz; cases hz), fun _ _ => rfl⟩
  have fb : ∀ z ∈ frmW r inc i (p : Int) x y e, z < 256 := sealL_lt (bodyL_lt he hb)
  have h1 := Tch.putK hq24 hp48 (r := r) (inc := inc) (i := i) (k := m.nextW r i) (x := x) (y := y) (e := e) hp h0 fb s3.2
  have hin : ∀ t, putT q p t → slT q t := fun t ht => by
    unfold putT at ht
    unfold slT
    rcases hpc with rfl | rfl
    · rcases ht with ht | ht | ht
      · exact .inl ht
      · exact .inr (.inl ht)
      · exact .inr (.inr (.inl ht))
    · rcases ht with ht | ht | ht
      · exact .inl ht
      · exact .inr (.inr (.inr (.inl ht)))
      · exact .inr (.inr (.inr (.inr ht)))
  have e1 : m.putW r inc i x y e = m.putK r inc i (q : Int) (m.nextW r i) x y e := by unfold DM.putW; rw [hq]
  rw [e1]
  exact ⟨h1.ok, h1.size, h1.down, fun z hz => hin _ (h1.waits z hz), fun t ht => h1.hold t fun hh => ht (hin t hh)⟩
/-! ### Index by index: WalRound -/
def lastQ (q N : Nat) : Nat := if N ≤ q then 0 else q + 1 + 24 * ((N - 1 - q) / 24)
def noopE : Ent := { k := 1 }
def oQ (q N : Nat) : Option (Int × Int × Ent) := if N ≤ q then none else some ((lastQ q N : Nat), 0, noopE)
structure RInv (m : DM) (N : Nat) : Prop where
  cd : CD m (-1)
  sl : ∀ q, q < 24 → SlD m 0 q (lastQ q N : Nat) (oQ q N)
theorem RInv.new : RInv (DM.new 156) 0 := ⟨CD.new, fun q hq => by
  have : oQ q 0 = none := if_pos (Nat.zero_le _)
  rw [this]
  exact SlD.new hq 0 _⟩
theorem lastQ_far {q N : Nat} (h : q ≠ N % 24) (hq : q < 24) : lastQ q (N + 1) = lastQ q N ∧ oQ q (N + 1) = oQ q N := by
  have hl : lastQ q (N + 1) = lastQ q N := by
    unfold lastQ
    by_cases h1 : N ≤ q
    · have : N ≠ q := fun e => h (by rw [e]; omega)
      rw [if_pos (by omega), if_pos h1]
    · rw [if_neg (by omega), if_neg h1]
      omega
  refine ⟨hl, ?_⟩
  unfold oQ
  rw [hl]
  by_cases h1 : N ≤ q
  · have : N ≠ q := fun e => h (by rw [e]; omega)
    rw [if_pos (by omega), if_pos h1]
  · rw [if_neg (by omega), if_neg h1]
theorem noop_ok : enOk noopE = true := by decide
theorem lastQ_now (N : Nat) : lastQ (N % 24) (N + 1) = N + 1 := by
  unfold lastQ
  rw [if_neg (by omega)]
  omega
theorem RInv.put {m : DM} {N : Nat} (h : RInv m N) (hN : N < 1099511627776) {inc : Int} (hc : 1 ≤ inc ∧ inc ≤ 1099511627776) : ∃ m', m.putW 0 inc ((N + 1 : Nat) : Int) ((N + 1 : Nat) : Int) 0 noopE = (0, m') ∧ RInv m' (N + 1) := by
  have hq : placeW ((N + 1 : Nat) : Int) = ((N % 24 : Nat) : Int) := by unfold placeW; omega
  have hq24 : N % 24 < 24 := by omega
  obtain ⟨m', e1, c1, _, s1, g1⟩ := SlD.put h.cd (inc := inc) (x := ((N + 1 : Nat) : Int)) (y := 0) (e := noopE) hq hq24 (h.sl _ hq24) (by omega) (by omega) hc (balE_iff.2 (by omega)) noop_ok (by
    unfold oQ lastQ
    by_cases h1 : N ≤ N % 24
    · rw [if_pos h1]; exact .inl rfl
    · rw [if_neg h1, if_neg h1]; exact .inr (.inl (by omega)))
  refine ⟨m', e1, c1, fun q hql => ?_⟩
  by_cases hqq : q = N % 24
  · subst hqq
    rw [lastQ_now]
    have : oQ (N % 24) (N + 1) = some (((N + 1 : Nat) : Int), 0, noopE) := by unfold oQ; rw [if_neg (by omega), lastQ_now]
    rw [this]
    exact s1
  · obtain ⟨a, b⟩ := lastQ_far hqq hql
    rw [a, b]
    exact SlD.of_same h.cd c1 hql (g1 q hql hqq) (h.sl q hql)
theorem RInv.told {m : DM} {N i : Nat} (h : RInv m N) (h1 : 1 ≤ i) (h2 : i ≤ N) (h3 : N < i + 24) : m.clsW 0 (i : Int) = 3 ∧ m.rptW 0 (i : Int) = ⟨(i : Int), 2, (i : Int), 0, noopE⟩ := by
  have hq : placeW (i : Int) = (((i - 1) % 24 : Nat) : Int) := by unfold placeW; omega
  have hs := h.sl ((i - 1) % 24) (by omega)
  have hl : lastQ ((i - 1) % 24) N = i := by unfold lastQ; rw [if_neg (by omega)]; omega
  have ho : oQ ((i - 1) % 24) N = some ((i : Int), 0, noopE) := by unfold oQ; rw [hl, if_neg (by omega)]
  rw [hl, ho] at hs
  obtain ⟨a, b, c, d⟩ := SlH.told hs
  rw [clsW_of hq, rptW_of hq]
  exact ⟨a, rpt_told a b c d⟩
/-! ### Puts at 24 indices by rising ballots: WalNothing -/
structure PutA where
  at_ : Nat := 0
  x : Int := 0
  y : Int := 0
  e : Ent := {}
/-- Which put was the last one of slot k, and 1. -/
def lastP (l : List PutA) : Nat → Nat → Nat
  | 0, _ => 0
  | n + 1, k => if k = 1 + (l.getD n {}).at_ % 24 ∧ (lastP l n k = 0 ∨ gtL (l.getD n {}).x (l.getD n {}).y (l.getD (lastP l n k - 1) {}).x (l.getD (lastP l n k - 1) {}).y) then n + 1 else lastP l n k
def oP (l : List PutA) (n k : Nat) : Option (Int × Int × Ent) := if lastP l n k = 0 then none else some ((l.getD (lastP l n k - 1) {}).x, (l.getD (lastP l n k - 1) {}).y, (l.getD (lastP l n k - 1) {}).e)
structure NPut (m : DM) (r : Int) (l : List PutA) (n : Nat) : Prop where
  cd : CD m (-1)
  ni : NInv m
  sl : ∀ q, q < 24 → SlD m r q ((q + 1 : Nat) : Int) (oP l n (q + 1))
theorem NPut.new (r : Int) (l : List PutA) : NPut (DM.new 156) r l 0 := ⟨CD.new, NInv.new 156, fun _ hq => SlD.new hq r _⟩
theorem oP_far {l : List PutA} {n k : Nat} (h : k ≠ 1 + (l.getD n {}).at_ % 24) : oP l (n + 1) k = oP l n k ∧ lastP l (n + 1) k = lastP l n k := by
  have : lastP l (n + 1) k = lastP l n k := by
    show (if _ then _ else _) = _
    rw [if_neg fun hh => h hh.1]
  exact ⟨by unfold oP; rw [this], this⟩
/-- A put that is below the last one is left out. -/
theorem NPut.skip {m : DM} {r : Int} {l : List PutA} {n k : Nat} (h : NPut m r l n) (hk : k = 1 + (l.getD n {}).at_ % 24) (hs : lastP l n k ≠ 0 ∧ ¬ gtL (l.getD n {}).x (l.getD n {}).y (l.getD (lastP l n k - 1) {}).x (l.getD (lastP l n k - 1) {}).y) : NPut m r l (n + 1) ∧ ∀ k', lastP l (n + 1) k' = lastP l n k' := by
  have all : ∀ k', lastP l (n + 1) k' = lastP l n k' := fun k' => by
    by_cases hkk : k' = k
    · subst hkk
      show (if _ then _ else _) = _
      rw [if_neg]
      rintro ⟨_, hh | hh⟩
      · exact hs.1 hh
      · exact hs.2 hh
    · exact (oP_far (by rw [← hk]; exact hkk)).2
  refine ⟨⟨h.cd, h.ni, fun q hq => ?_⟩, all⟩
  have : oP l (n + 1) (q + 1) = oP l n (q + 1) := by unfold oP; rw [all]
  rw [this]
  exact h.sl q hq
theorem NPut.put {m : DM} {r : Int} {l : List PutA} {n k : Nat} (h : NPut m r l n) (hk : k = 1 + (l.getD n {}).at_ % 24) (hs : lastP l n k = 0 ∨ gtL (l.getD n {}).x (l.getD n {}).y (l.getD (lastP l n k - 1) {}).x (l.getD (lastP l n k - 1) {}).y)
    (hr : 0 ≤ r ∧ r ≤ 6) {inc : Int} (hc : 1 ≤ inc ∧ inc ≤ 1099511627776) (hb : balE (l.getD n {}).x (l.getD n {}).y = true) (he : enOk (l.getD n {}).e = true) :
    ∃ m', m.putW r inc (k : Int) (l.getD n {}).x (l.getD n {}).y (l.getD n {}).e = (0, m') ∧ NPut m' r l (n + 1) ∧ lastP l (n + 1) k = n + 1 ∧ ∀ k', k' ≠ k → lastP l (n + 1) k' = lastP l n k' := by
  obtain ⟨q, hq⟩ : ∃ q, q = (l.getD n {}).at_ % 24 := ⟨_, rfl⟩
  have hq24 : q < 24 := by omega
  have hkq : k = q + 1 := by omega
  have hpl : placeW (k : Int) = (q : Int) := by unfold placeW; omega
  have hnow : lastP l (n + 1) k = n + 1 := by
    show (if _ then _ else _) = _
    rw [if_pos ⟨hk, hs⟩]
  have hfar : ∀ k', k' ≠ k → lastP l (n + 1) k' = lastP l n k' := fun k' hne => (oP_far (by rw [← hk]; exact hne)).2
  have hsl := h.sl q hq24
  rw [← hkq] at hsl
  obtain ⟨m', e1, c1, n1, s1, g1⟩ := SlD.put h.cd (inc := inc) (x := (l.getD n {}).x) (y := (l.getD n {}).y) (e := (l.getD n {}).e) hpl hq24 hsl hr (by omega) hc hb he (by
    unfold oP
    by_cases hz : lastP l n k = 0
    · rw [if_pos hz]; exact .inl rfl
    · rw [if_neg hz]
      refine .inr (.inr ⟨rfl, fun a b c hh => ?_⟩)
      injection hh with hh
      injection hh with h1 hh
      injection hh with h2 h3
      rw [← h1, ← h2]
      exact hs.resolve_left hz)
  refine ⟨m', e1, ⟨c1, n1 h.ni, fun q' hq' => ?_⟩, hnow, hfar⟩
  by_cases hqq : q' = q
  · subst hqq
    rw [← hkq]
    have : oP l (n + 1) k = some ((l.getD n {}).x, (l.getD n {}).y, (l.getD n {}).e) := by
      unfold oP
      rw [hnow, if_neg (by omega), Nat.add_sub_cancel]
    rw [this]
    exact s1
  · rw [(oP_far (l := l) (n := n) (k := q' + 1) (by omega)).1]
    exact SlD.of_same h.cd c1 hq' (g1 q' hq' hqq) (h.sl q' hq')
/-- What is told behind faults that are all seen. -/
theorem NPut.hurt {m0 m : DM} {r : Int} {l : List PutA} {n : Nat} (h : NPut m0 r l n) (hf : Flt m0 m) (hs : m.seenB r = true) {k : Nat} (h1 : 1 ≤ k) (h2 : k ≤ 24) :
    (lastP l n k = 0 → m.clsW r (k : Int) ≠ 3) ∧
    (lastP l n k ≠ 0 → (m.clsW r (k : Int) = 3 ∧ m.rptW r (k : Int) = ⟨(k : Int), 2, (l.getD (lastP l n k - 1) {}).x, (l.getD (lastP l n k - 1) {}).y, (l.getD (lastP l n k - 1) {}).e⟩) ∨
      (m.clsW r (k : Int) = 2 ∧ (anyIn m.hurt (firstS 3 ((k - 1 : Nat) : Int)) (wid 3) = true ∨ anyIn m.hurt (firstS 4 ((2 * (k - 1) : Nat) : Int)) (wid 4) = true ∨ anyIn m.hurt (firstS 4 ((2 * (k - 1) + 1 : Nat) : Int)) (wid 4) = true))) := by
  have hq : placeW (k : Int) = ((k - 1 : Nat) : Int) := by unfold placeW; omega
  have hsl := h.sl (k - 1) (by omega)
  rw [show k - 1 + 1 = k from by omega] at hsl
  obtain ⟨a1, a2⟩ := hf.rec_ h.cd h.ni hs (q := k - 1) (by omega)
  obtain ⟨b1, b2⟩ := hf.cop_ h.cd h.ni hs (p := 2 * (k - 1)) (by omega)
  obtain ⟨c1, c2⟩ := hf.cop_ h.cd h.ni hs (p := 2 * (k - 1) + 1) (by omega)
  rw [clsW_of hq, rptW_of hq]
  unfold oP at hsl
  constructor
  · intro hz
    rw [if_pos hz] at hsl
    exact hurt_none hsl a1 b1 c1
  · intro hz
    rw [if_neg hz] at hsl
    rcases hurt_some hsl a1 b1 c1 with ⟨t1, t2, t3, t4⟩ | ⟨t1, t2⟩
    · exact .inl ⟨t1, rpt_told t1 t2 t3 t4⟩
    · refine .inr ⟨t1, ?_⟩
      by_cases u1 : anyIn m.hurt (firstS 3 ((k - 1 : Nat) : Int)) (wid 3) = true
      · exact .inl u1
      · by_cases u2 : anyIn m.hurt (firstS 4 ((2 * (k - 1) : Nat) : Int)) (wid 4) = true
        · exact .inr (.inl u2)
        · by_cases u3 : anyIn m.hurt (firstS 4 ((2 * (k - 1) + 1 : Nat) : Int)) (wid 4) = true
          · exact .inr (.inr u3)
          · exact absurd ⟨a2 (by simpa using u1), b2 (by simpa using u2), c2 (by simpa using u3)⟩ t2
end Go.Proofs.YtmacebglfniegaaGreatDoor

namespace Go.Proofs.YtmacebglfniegaaGreatDoor
open Go Go.RowKit

section
variable {w : World} {g d s : Nat} {r inc : Int} {F : Nat → Prop} {m : DM}
set_option maxRecDepth 100000 in
set_option maxHeartbeats 1200000 in
theorem wlook_core (p : Option Addr) (i : Int) (a b : Int) (C : Nat) (R : Rpt) (hk : ∀ V, Ext w V → Calls Tryz.prog 46 #[.pointer p, .int .i64 i] V fun e w' => e = .returned (.int .i64 a) ∧ Ext V w')
    (hr : ∀ V, Ext w V → Calls Tryz.prog 47 #[.pointer p] V fun e w' => e = .returned (.int .i64 b) ∧ V = w')
    (hc : orI a b = 0 → ∀ V, Ext w V → Calls Tryz.prog 129 #[.pointer p, .int .i64 i] V fun e w' => e = .returned (.tuple #[.int .u8 (C : Int), .agg #[.int .i64 R.ix, .int .u8 (R.st : Int), .int .i64 R.x, .int .i64 R.y, .int .u8 (R.e.k : Int), .int .i64 R.e.cl, .int .i64 R.e.sq, .int .u8 (R.e.ok : Int), .string R.e.key, .string R.e.old, .string R.e.val]]) ∧ Ext V w')
    (h0 : orI a b ≠ 0 → C = 0 ∧ R = {}) :
    Calls Tryz.prog 71 #[.pointer p, .int .i64 i] w fun e w' => e = .returned (.tuple #[.int .u8 (C : Int), .agg #[.int .i64 R.ix, .int .u8 (R.st : Int), .int .i64 R.x, .int .i64 R.y, .int .u8 (R.e.k : Int), .int .i64 R.e.cl, .int .i64 R.e.sq, .int .u8 (R.e.ok : Int), .string R.e.key, .string R.e.old, .string R.e.val], .int .i64 (orI a b)]) ∧ Ext w w' := by
  have HK := Lib.hid hk
  have HR := Lib.hid hr
  have HC := Lib.hid hc
  have H0 := Lib.hid h0
  obtain ⟨bb, w0, hw0, hE0, hT0, hz0w⟩ : ∃ (bb : Nat) (w0 : World), (bb = w.heap.size ∧ w0 = w.alloc (.cells #[.int .i64 0, .int .u8 0, .int .i64 0, .int .i64 0, .int .u8 0, .int .i64 0, .int .i64 0, .int .u8 0, .string ⟨#[]⟩, .string ⟨#[]⟩, .string ⟨#[]⟩] 78)) ∧ Ext w w0 ∧ w0.heap[bb]? = some (.cells #[.int .i64 0, .int .u8 0, .int .i64 0, .int .i64 0, .int .u8 0, .int .i64 0, .int .i64 0, .int .u8 0, .string ⟨#[]⟩, .string ⟨#[]⟩, .string ⟨#[]⟩] 78 (0, 0)) ∧ (w0.heap.size = bb + 1 ∧ w.heap.size ≤ bb) :=
    ⟨_, _, ⟨rfl, rfl⟩, (Ext.refl w).alloc _, heap_alloc_new w _, by simp, Nat.le_refl _⟩
  have HE0 := Lib.hid hE0
  have HT0 := Lib.hid hT0
  have HZ0 := Lib.hid hz0w
  clear hk hr hc h0 hE0 hT0 hz0w
  go_enter Tryz.func71, Tryz.ntmps71
  go_wp2_with fail
  rw [← hw0.1, ← hw0.2]
  clear hw0
  refine (HK.out _ HE0.out).mono ?_
  rintro e w1 ⟨rfl, hx⟩
  have HX := Lib.hid (HE0.out.trans hx)
  have HT := Lib.hid (keep_row hx HT0.out)
  clear hx HE0 HT0
  go_wp2_with fail
  refine (HR.out _ HX.out).mono ?_
  rintro e w2 ⟨rfl, rfl⟩
  go_wp2_with fail
  have hro := heap_alloc_new w1 (.cells #[.int .i64 a, .int .i64 b] 25)
  have hxo := (Ext.refl w1).alloc (.cells #[.int .i64 a, .int .i64 b] 25)
  refine (or2E w1.heap.size 2 a b _ (cell_of_row _ _ 0 _ _ _ hro) (cell_of_row _ _ 1 _ _ _ hro)).mono ?_
  rintro e w3 ⟨rfl, rfl⟩
  have HX := Lib.hid (HX.out.trans hxo)
  have HT := Lib.hid (keep_row hxo HT.out)
  clear hro hxo
  generalize w1.alloc (.cells #[.int .i64 a, .int .i64 b] 25) = W at *
  obtain ⟨E, hE⟩ : ∃ E, orI a b = E := ⟨_, rfl⟩
  rw [hE] at HC H0
  by_cases hz : E = 0
  · subst hz
    have HEQ := Lib.hid hE
    rw [hE]
    clear hE
    go_wp2_with fail
    refine (HC.out (by first | rfl | trivial) _ HX.out).mono ?_
    rintro e w4 ⟨rfl, hx⟩
    have HX := Lib.hid (HX.out.trans hx)
    have HT := Lib.hid (keep_row hx HT.out)
    have hlt := (Array.getElem?_eq_some_iff.1 HT.out).1
    clear hx
    have d0 := cell_of_row w4 bb 0 _ _ _ (HT.out)
    have d1 := cell_of_row w4 bb 1 _ _ _ (HT.out)
    have d2 := cell_of_row w4 bb 2 _ _ _ (HT.out)
    have d3 := cell_of_row w4 bb 3 _ _ _ (HT.out)
    have d4 := cell_of_row w4 bb 4 _ _ _ (HT.out)
    have d5 := cell_of_row w4 bb 5 _ _ _ (HT.out)
    have d6 := cell_of_row w4 bb 6 _ _ _ (HT.out)
    have d7 := cell_of_row w4 bb 7 _ _ _ (HT.out)
    have d8 := cell_of_row w4 bb 8 _ _ _ (HT.out)
    have d9 := cell_of_row w4 bb 9 _ _ _ (HT.out)
    have d10 := cell_of_row w4 bb 10 _ _ _ (HT.out)
    have e0 := frozen_of_row w4 bb 0 _ _ (HT.out)
    have e1 := frozen_of_row w4 bb 1 _ _ (HT.out)
    have e2 := frozen_of_row w4 bb 2 _ _ (HT.out)
    have e3 := frozen_of_row w4 bb 3 _ _ (HT.out)
    have e4 := frozen_of_row w4 bb 4 _ _ (HT.out)
    have e5 := frozen_of_row w4 bb 5 _ _ (HT.out)
    have e6 := frozen_of_row w4 bb 6 _ _ (HT.out)
    have e7 := frozen_of_row w4 bb 7 _ _ (HT.out)
    have e8 := frozen_of_row w4 bb 8 _ _ (HT.out)
    have e9 := frozen_of_row w4 bb 9 _ _ (HT.out)
    have e10 := frozen_of_row w4 bb 10 _ _ (HT.out)
    go_upto_region 5 with (fail)
    have hrb := row11 HT.out (.int .i64 R.ix) (.int .u8 (R.st : Int)) (.int .i64 R.x) (.int .i64 R.y) (.int .u8 (R.e.k : Int)) (.int .i64 R.e.cl) (.int .i64 R.e.sq) (.int .u8 (R.e.ok : Int)) (.string R.e.key) (.string R.e.old) (.string R.e.val)
    have hx := ext11 HX.out HZ0.out.2 (.int .i64 R.ix) (.int .u8 (R.st : Int)) (.int .i64 R.x) (.int .i64 R.y) (.int .u8 (R.e.k : Int)) (.int .i64 R.e.cl) (.int .i64 R.e.sq) (.int .u8 (R.e.ok : Int)) (.string R.e.key) (.string R.e.old) (.string R.e.val)
    clear d0 d1 d2 d3 d4 d5 d6 d7 d8 d9 d10 e0 e1 e2 e3 e4 e5 e6 e7 e8 e9 e10 hlt
    generalize (((((((((((w4.setCell ⟨bb, 0, none⟩ (.int .i64 R.ix)).setCell ⟨bb, 1, none⟩ (.int .u8 (R.st : Int))).setCell ⟨bb, 2, none⟩ (.int .i64 R.x)).setCell ⟨bb, 3, none⟩ (.int .i64 R.y)).setCell ⟨bb, 4, none⟩ (.int .u8 (R.e.k : Int))).setCell ⟨bb, 5, none⟩ (.int .i64 R.e.cl)).setCell ⟨bb, 6, none⟩ (.int .i64 R.e.sq)).setCell ⟨bb, 7, none⟩ (.int .u8 (R.e.ok : Int))).setCell ⟨bb, 8, none⟩ (.string R.e.key)).setCell ⟨bb, 9, none⟩ (.string R.e.old)).setCell ⟨bb, 10, none⟩ (.string R.e.val)) = V at hrb hx ⊢
    have HRB := Lib.hid hrb
    have HX3 := Lib.hid hx
    have hlt := (Array.getElem?_eq_some_iff.1 hrb).1
    clear hrb hx
    have d0 := cell_of_row V bb 0 _ _ _ (HRB.out)
    have d1 := cell_of_row V bb 1 _ _ _ (HRB.out)
    have d2 := cell_of_row V bb 2 _ _ _ (HRB.out)
    have d3 := cell_of_row V bb 3 _ _ _ (HRB.out)
    have d4 := cell_of_row V bb 4 _ _ _ (HRB.out)
    have d5 := cell_of_row V bb 5 _ _ _ (HRB.out)
    have d6 := cell_of_row V bb 6 _ _ _ (HRB.out)
    have d7 := cell_of_row V bb 7 _ _ _ (HRB.out)
    have d8 := cell_of_row V bb 8 _ _ _ (HRB.out)
    have d9 := cell_of_row V bb 9 _ _ _ (HRB.out)
    have d10 := cell_of_row V bb 10 _ _ _ (HRB.out)
    have e0 := frozen_of_row V bb 0 _ _ (HRB.out)
    have e1 := frozen_of_row V bb 1 _ _ (HRB.out)
    have e2 := frozen_of_row V bb 2 _ _ (HRB.out)
    have e3 := frozen_of_row V bb 3 _ _ (HRB.out)
    have e4 := frozen_of_row V bb 4 _ _ (HRB.out)
    have e5 := frozen_of_row V bb 5 _ _ (HRB.out)
    have e6 := frozen_of_row V bb 6 _ _ (HRB.out)
    have e7 := frozen_of_row V bb 7 _ _ (HRB.out)
    have e8 := frozen_of_row V bb 8 _ _ (HRB.out)
    have e9 := frozen_of_row V bb 9 _ _ (HRB.out)
    have e10 := frozen_of_row V bb 10 _ _ (HRB.out)
    go_region
    go_wp2_with fail
    have hrow := row11 (HRB.out) (.int .i64 R.ix) (.int .u8 (R.st : Int)) (.int .i64 R.x) (.int .i64 R.y) (.int .u8 (R.e.k : Int)) (.int .i64 R.e.cl) (.int .i64 R.e.sq) (.int .u8 (R.e.ok : Int)) (.string R.e.key) (.string R.e.old) (.string R.e.val)
    have hx := ext11 (HX3.out) (HZ0.out.2) (.int .i64 R.ix) (.int .u8 (R.st : Int)) (.int .i64 R.x) (.int .i64 R.y) (.int .u8 (R.e.k : Int)) (.int .i64 R.e.cl) (.int .i64 R.e.sq) (.int .u8 (R.e.ok : Int)) (.string R.e.key) (.string R.e.old) (.string R.e.val)
    clear d0 d1 d2 d3 d4 d5 d6 d7 d8 d9 d10 e0 e1 e2 e3 e4 e5 e6 e7 e8 e9 e10
    generalize (((((((((((V.setCell ⟨bb, 0, none⟩ (.int .i64 R.ix)).setCell ⟨bb, 1, none⟩ (.int .u8 (R.st : Int))).setCell ⟨bb, 2, none⟩ (.int .i64 R.x)).setCell ⟨bb, 3, none⟩ (.int .i64 R.y)).setCell ⟨bb, 4, none⟩ (.int .u8 (R.e.k : Int))).setCell ⟨bb, 5, none⟩ (.int .i64 R.e.cl)).setCell ⟨bb, 6, none⟩ (.int .i64 R.e.sq)).setCell ⟨bb, 7, none⟩ (.int .u8 (R.e.ok : Int))).setCell ⟨bb, 8, none⟩ (.string R.e.key)).setCell ⟨bb, 9, none⟩ (.string R.e.old)).setCell ⟨bb, 10, none⟩ (.string R.e.val)) = U at hrow hx ⊢
    obtain ⟨⟨c0, c1, c2, c3, c4, c5, c6, c7, c8, c9, c10⟩, _⟩ := free11W (w := U.drew) hrow
    refine bodyPost_ret (v := .tuple #[.int .u8 (C : Int), .agg #[.int .i64 R.ix, .int .u8 (R.st : Int), .int .i64 R.x, .int .i64 R.y, .int .u8 (R.e.k : Int), .int .i64 R.e.cl, .int .i64 R.e.sq, .int .u8 (R.e.ok : Int), .string R.e.key, .string R.e.old, .string R.e.val], .int .i64 0]) (by simp [results, Tryz.results71, go_sem, c0, c1, c2, c3, c4, c5, c6, c7, c8, c9, c10]) rfl ?_
    exact ⟨by rw [HEQ.out], Below.drew hx⟩

  · obtain ⟨hC, hR⟩ := H0.out hz
    subst hC hR
    have HEQ := Lib.hid hE
    rw [hE]
    have hne : (E != 0) = true := by simpa using hz
    clear hz hE
    have d0 := cell_of_row W bb 0 _ _ _ (HT.out)
    have d1 := cell_of_row W bb 1 _ _ _ (HT.out)
    have d2 := cell_of_row W bb 2 _ _ _ (HT.out)
    have d3 := cell_of_row W bb 3 _ _ _ (HT.out)
    have d4 := cell_of_row W bb 4 _ _ _ (HT.out)
    have d5 := cell_of_row W bb 5 _ _ _ (HT.out)
    have d6 := cell_of_row W bb 6 _ _ _ (HT.out)
    have d7 := cell_of_row W bb 7 _ _ _ (HT.out)
    have d8 := cell_of_row W bb 8 _ _ _ (HT.out)
    have d9 := cell_of_row W bb 9 _ _ _ (HT.out)
    have d10 := cell_of_row W bb 10 _ _ _ (HT.out)
    have e0 := frozen_of_row W bb 0 _ _ (HT.out)
    have e1 := frozen_of_row W bb 1 _ _ (HT.out)
    have e2 := frozen_of_row W bb 2 _ _ (HT.out)
    have e3 := frozen_of_row W bb 3 _ _ (HT.out)
    have e4 := frozen_of_row W bb 4 _ _ (HT.out)
    have e5 := frozen_of_row W bb 5 _ _ (HT.out)
    have e6 := frozen_of_row W bb 6 _ _ (HT.out)
    have e7 := frozen_of_row W bb 7 _ _ (HT.out)
    have e8 := frozen_of_row W bb 8 _ _ (HT.out)
    have e9 := frozen_of_row W bb 9 _ _ (HT.out)
    have e10 := frozen_of_row W bb 10 _ _ (HT.out)
    have hlt := (Array.getElem?_eq_some_iff.1 HT.out).1
    go_wp2_with fail
    have hrow := row11 (HT.out) (.int .i64 0) (.int .u8 0) (.int .i64 0) (.int .i64 0) (.int .u8 0) (.int .i64 0) (.int .i64 0) (.int .u8 0) (.string ⟨#[]⟩) (.string ⟨#[]⟩) (.string ⟨#[]⟩)
    have hx := ext11 (HX.out) (HZ0.out.2) (.int .i64 0) (.int .u8 0) (.int .i64 0) (.int .i64 0) (.int .u8 0) (.int .i64 0) (.int .i64 0) (.int .u8 0) (.string ⟨#[]⟩) (.string ⟨#[]⟩) (.string ⟨#[]⟩)
    clear d0 d1 d2 d3 d4 d5 d6 d7 d8 d9 d10 e0 e1 e2 e3 e4 e5 e6 e7 e8 e9 e10
    generalize (((((((((((W.setCell ⟨bb, 0, none⟩ (.int .i64 0)).setCell ⟨bb, 1, none⟩ (.int .u8 0)).setCell ⟨bb, 2, none⟩ (.int .i64 0)).setCell ⟨bb, 3, none⟩ (.int .i64 0)).setCell ⟨bb, 4, none⟩ (.int .u8 0)).setCell ⟨bb, 5, none⟩ (.int .i64 0)).setCell ⟨bb, 6, none⟩ (.int .i64 0)).setCell ⟨bb, 7, none⟩ (.int .u8 0)).setCell ⟨bb, 8, none⟩ (.string ⟨#[]⟩)).setCell ⟨bb, 9, none⟩ (.string ⟨#[]⟩)).setCell ⟨bb, 10, none⟩ (.string ⟨#[]⟩)) = U at hrow hx ⊢
    obtain ⟨⟨c0, c1, c2, c3, c4, c5, c6, c7, c8, c9, c10⟩, _⟩ := free11W (w := U) hrow
    refine bodyPost_ret (v := .tuple #[.int .u8 0, .agg #[.int .i64 0, .int .u8 0, .int .i64 0, .int .i64 0, .int .u8 0, .int .i64 0, .int .i64 0, .int .u8 0, .string ⟨#[]⟩, .string ⟨#[]⟩, .string ⟨#[]⟩], .int .i64 E]) (by simp [results, Tryz.results71, go_sem, c0, c1, c2, c3, c4, c5, c6, c7, c8, c9, c10]) rfl ?_
    exact ⟨by rw [HEQ.out]; rfl, hx⟩

end
end Go.Proofs.YtmacebglfniegaaGreatDoor

namespace Go.Proofs.YtmacebglfniegaaGreatDoor
open Go Go.RowKit

section
variable {w : World}
set_option maxRecDepth 100000 in
set_option maxHeartbeats 800000 in
theorem wget_core (p : Option Addr) (i E : Int) (C : Nat) (R : Rpt) (hl : ∀ V, Ext w V → Calls Tryz.prog 71 #[.pointer p, .int .i64 i] V fun e w' => e = .returned (.tuple #[.int .u8 (C : Int), .agg #[.int .i64 R.ix, .int .u8 (R.st : Int), .int .i64 R.x, .int .i64 R.y, .int .u8 (R.e.k : Int), .int .i64 R.e.cl, .int .i64 R.e.sq, .int .u8 (R.e.ok : Int), .string R.e.key, .string R.e.old, .string R.e.val], .int .i64 E]) ∧ Ext V w') :
    Calls Tryz.prog 25 #[.pointer p, .int .i64 i] w fun e w' => e = .returned (.tuple #[.agg #[.int .i64 R.ix, .int .u8 (R.st : Int), .int .i64 R.x, .int .i64 R.y, .int .u8 (R.e.k : Int), .int .i64 R.e.cl, .int .i64 R.e.sq, .int .u8 (R.e.ok : Int), .string R.e.key, .string R.e.old, .string R.e.val], .int .i64 E]) ∧ Ext w w' := by
  have HL := Lib.hid hl
  obtain ⟨b, w0, hw0, hE0, hT0, hz0w⟩ : ∃ (b : Nat) (w0 : World), (b = w.heap.size ∧ w0 = w.alloc (.cells #[.int .i64 0, .int .u8 0, .int .i64 0, .int .i64 0, .int .u8 0, .int .i64 0, .int .i64 0, .int .u8 0, .string ⟨#[]⟩, .string ⟨#[]⟩, .string ⟨#[]⟩] 78)) ∧ Ext w w0 ∧ w0.heap[b]? = some (.cells #[.int .i64 0, .int .u8 0, .int .i64 0, .int .i64 0, .int .u8 0, .int .i64 0, .int .i64 0, .int .u8 0, .string ⟨#[]⟩, .string ⟨#[]⟩, .string ⟨#[]⟩] 78 (0, 0)) ∧ (w0.heap.size = b + 1 ∧ w.heap.size ≤ b) :=
    ⟨_, _, ⟨rfl, rfl⟩, (Ext.refl w).alloc _, heap_alloc_new w _, by simp, Nat.le_refl _⟩
  have HE0 := Lib.hid hE0
  have HT0 := Lib.hid hT0
  have HZ0 := Lib.hid hz0w
  clear hl hE0 hT0 hz0w
  go_enter Tryz.func25, Tryz.ntmps25
  go_wp2_with fail
  rw [← hw0.1, ← hw0.2]
  clear hw0
  refine (HL.out _ HE0.out).mono ?_
  rintro e w1 ⟨rfl, hx⟩
  have HX := Lib.hid (HE0.out.trans hx)
  have HT := Lib.hid (keep_row hx HT0.out)
  clear hx HE0 HT0
  go_upto_region 2 with (fail)
  have hr9 := heap_alloc_new w1 (.cells #[.int .i64 R.ix, .int .u8 (R.st : Int), .int .i64 R.x, .int .i64 R.y, .int .u8 (R.e.k : Int), .int .i64 R.e.cl, .int .i64 R.e.sq, .int .u8 (R.e.ok : Int), .string R.e.key, .string R.e.old, .string R.e.val] 78)
  have hx9 := (Ext.refl w1).alloc (.cells #[.int .i64 R.ix, .int .u8 (R.st : Int), .int .i64 R.x, .int .i64 R.y, .int .u8 (R.e.k : Int), .int .i64 R.e.cl, .int .i64 R.e.sq, .int .u8 (R.e.ok : Int), .string R.e.key, .string R.e.old, .string R.e.val] 78)
  have HX := Lib.hid (HX.out.trans hx9)
  have HT := Lib.hid (keep_row hx9 HT.out)
  generalize w1.alloc (.cells #[.int .i64 R.ix, .int .u8 (R.st : Int), .int .i64 R.x, .int .i64 R.y, .int .u8 (R.e.k : Int), .int .i64 R.e.cl, .int .i64 R.e.sq, .int .u8 (R.e.ok : Int), .string R.e.key, .string R.e.old, .string R.e.val] 78) = V at *
  generalize w1.heap.size = g9 at *
  have HR9 := Lib.hid hr9
  have hlt := (Array.getElem?_eq_some_iff.1 HT.out).1
  clear hr9 hx9
  have c0 := cell_of_row V g9 0 _ _ _ (HR9.out)
  have c1 := cell_of_row V g9 1 _ _ _ (HR9.out)
  have c2 := cell_of_row V g9 2 _ _ _ (HR9.out)
  have c3 := cell_of_row V g9 3 _ _ _ (HR9.out)
  have c4 := cell_of_row V g9 4 _ _ _ (HR9.out)
  have c5 := cell_of_row V g9 5 _ _ _ (HR9.out)
  have c6 := cell_of_row V g9 6 _ _ _ (HR9.out)
  have c7 := cell_of_row V g9 7 _ _ _ (HR9.out)
  have c8 := cell_of_row V g9 8 _ _ _ (HR9.out)
  have c9 := cell_of_row V g9 9 _ _ _ (HR9.out)
  have c10 := cell_of_row V g9 10 _ _ _ (HR9.out)
  have d0 := cell_of_row V b 0 _ _ _ (HT.out)
  have d1 := cell_of_row V b 1 _ _ _ (HT.out)
  have d2 := cell_of_row V b 2 _ _ _ (HT.out)
  have d3 := cell_of_row V b 3 _ _ _ (HT.out)
  have d4 := cell_of_row V b 4 _ _ _ (HT.out)
  have d5 := cell_of_row V b 5 _ _ _ (HT.out)
  have d6 := cell_of_row V b 6 _ _ _ (HT.out)
  have d7 := cell_of_row V b 7 _ _ _ (HT.out)
  have d8 := cell_of_row V b 8 _ _ _ (HT.out)
  have d9 := cell_of_row V b 9 _ _ _ (HT.out)
  have d10 := cell_of_row V b 10 _ _ _ (HT.out)
  have e0 := frozen_of_row V b 0 _ _ (HT.out)
  have e1 := frozen_of_row V b 1 _ _ (HT.out)
  have e2 := frozen_of_row V b 2 _ _ (HT.out)
  have e3 := frozen_of_row V b 3 _ _ (HT.out)
  have e4 := frozen_of_row V b 4 _ _ (HT.out)
  have e5 := frozen_of_row V b 5 _ _ (HT.out)
  have e6 := frozen_of_row V b 6 _ _ (HT.out)
  have e7 := frozen_of_row V b 7 _ _ (HT.out)
  have e8 := frozen_of_row V b 8 _ _ (HT.out)
  have e9 := frozen_of_row V b 9 _ _ (HT.out)
  have e10 := frozen_of_row V b 10 _ _ (HT.out)
  go_wp2_with fail
  have hrow := row11 HT.out (.int .i64 R.ix) (.int .u8 (R.st : Int)) (.int .i64 R.x) (.int .i64 R.y) (.int .u8 (R.e.k : Int)) (.int .i64 R.e.cl) (.int .i64 R.e.sq) (.int .u8 (R.e.ok : Int)) (.string R.e.key) (.string R.e.old) (.string R.e.val)
  have hx := ext11 HX.out HZ0.out.2 (.int .i64 R.ix) (.int .u8 (R.st : Int)) (.int .i64 R.x) (.int .i64 R.y) (.int .u8 (R.e.k : Int)) (.int .i64 R.e.cl) (.int .i64 R.e.sq) (.int .u8 (R.e.ok : Int)) (.string R.e.key) (.string R.e.old) (.string R.e.val)
  clear d0 d1 d2 d3 d4 d5 d6 d7 d8 d9 d10 c0 c1 c2 c3 c4 c5 c6 c7 c8 c9 c10 e0 e1 e2 e3 e4 e5 e6 e7 e8 e9 e10 hlt
  generalize (((((((((((V.setCell ⟨b, 0, none⟩ (.int .i64 R.ix)).setCell ⟨b, 1, none⟩ (.int .u8 (R.st : Int))).setCell ⟨b, 2, none⟩ (.int .i64 R.x)).setCell ⟨b, 3, none⟩ (.int .i64 R.y)).setCell ⟨b, 4, none⟩ (.int .u8 (R.e.k : Int))).setCell ⟨b, 5, none⟩ (.int .i64 R.e.cl)).setCell ⟨b, 6, none⟩ (.int .i64 R.e.sq)).setCell ⟨b, 7, none⟩ (.int .u8 (R.e.ok : Int))).setCell ⟨b, 8, none⟩ (.string R.e.key)).setCell ⟨b, 9, none⟩ (.string R.e.old)).setCell ⟨b, 10, none⟩ (.string R.e.val)) = U at hrow hx ⊢
  obtain ⟨⟨c0, c1, c2, c3, c4, c5, c6, c7, c8, c9, c10⟩, _⟩ := free11W hrow
  refine bodyPost_ret (v := .tuple #[.agg #[.int .i64 R.ix, .int .u8 (R.st : Int), .int .i64 R.x, .int .i64 R.y, .int .u8 (R.e.k : Int), .int .i64 R.e.cl, .int .i64 R.e.sq, .int .u8 (R.e.ok : Int), .string R.e.key, .string R.e.old, .string R.e.val], .int .i64 E]) (by simp [results, Tryz.results25, go_sem, c0, c1, c2, c3, c4, c5, c6, c7, c8, c9, c10]) rfl ?_
  exact ⟨rfl, hx⟩

set_option maxRecDepth 100000 in
set_option maxHeartbeats 800000 in
theorem wclass_core (p : Option Addr) (i E : Int) (C : Nat) (R : Rpt) (hl : ∀ V, Ext w V → Calls Tryz.prog 71 #[.pointer p, .int .i64 i] V fun e w' => e = .returned (.tuple #[.int .u8 (C : Int), .agg #[.int .i64 R.ix, .int .u8 (R.st : Int), .int .i64 R.x, .int .i64 R.y, .int .u8 (R.e.k : Int), .int .i64 R.e.cl, .int .i64 R.e.sq, .int .u8 (R.e.ok : Int), .string R.e.key, .string R.e.old, .string R.e.val], .int .i64 E]) ∧ Ext V w') :
    Calls Tryz.prog 26 #[.pointer p, .int .i64 i] w fun e w' => e = .returned (.tuple #[.int .u8 (C : Int), .int .i64 E]) ∧ Ext w w' := by
  have HL := Lib.hid hl
  clear hl
  go_enter Tryz.func26, Tryz.ntmps26
  go_wp2_with fail
  refine (HL.out _ (Ext.refl w)).mono ?_
  rintro e w1 ⟨rfl, hx⟩
  have HX := Lib.hid hx
  clear hx
  go_wp2_with fail
  refine bodyPost_ret (v := .tuple #[.int .u8 (C : Int), .int .i64 E]) (by simp [results, Tryz.results26, go_sem]) rfl ?_
  exact ⟨rfl, HX.out.alloc _⟩
end
section
variable {w : World} {g d s : Nat} {r inc : Int} {F : Nat → Prop} {m : DM}
theorem wlook_no {p : Option Addr} (h : UnmadeW w p) (i : Int) :
    Calls Tryz.prog 71 #[.pointer p, .int .i64 i] w fun e w' => e = .returned (.tuple #[.int .u8 ((0 : Nat) : Int), .agg #[.int .i64 ({} : Rpt).ix, .int .u8 (({} : Rpt).st : Int), .int .i64 ({} : Rpt).x, .int .i64 ({} : Rpt).y, .int .u8 (({} : Rpt).e.k : Int), .int .i64 ({} : Rpt).e.cl, .int .i64 ({} : Rpt).e.sq, .int .u8 (({} : Rpt).e.ok : Int), .string ({} : Rpt).e.key, .string ({} : Rpt).e.old, .string ({} : Rpt).e.val], .int .i64 1]) ∧ Ext w w' := by
  have hu : ∀ V, Ext w V → UnmadeW V p := fun V hV => h.imp id fun ⟨q, h1, h2⟩ => ⟨q, h1, ext_of_cell hV h2⟩
  exact wlook_core p i 1 1 0 {} (fun V hV => (wknown_no (hu V hV) i).mono fun e w' hh => ⟨hh.1, hh.2 ▸ Ext.refl V⟩) (fun V hV => wrunning_no (hu V hV)) (fun h0 => absurd h0 (by decide)) (fun _ => ⟨rfl, rfl⟩)
end
end Go.Proofs.YtmacebglfniegaaGreatDoor

namespace Go.Proofs.YtmacebglfniegaaGreatDoor
open Go Go.RowKit

end Go.Proofs.YtmacebglfniegaaGreatDoor

namespace Go.Proofs.YtmacebglfniegaaGreatDoor
open Go Go.RowKit Go.Shelf
attribute [local go_sem] Oper.semAt_some

set_option maxRecDepth 100000 in
set_option maxHeartbeats 1200000 in
/-- Put, refused. -/
theorem wput_no {w : World} (q : Option Addr) (i x y : Int) (e : Ent) (a b E : Int) (hE : orI a (orI (pR x y e) b) = E) (h0 : E ≠ 0) (hL : Laid w) (hok : e.ok < 256)
    (hk : ∀ V, Ext w V → Calls Tryz.prog 46 #[.pointer q, .int .i64 i] V fun r w' => r = .returned (.int .i64 a) ∧ Ext V w') (hr : ∀ V, Ext w V → Calls Tryz.prog 47 #[.pointer q] V fun r w' => r = .returned (.int .i64 b) ∧ V = w') :
    Calls Tryz.prog 13 #[.pointer q, .int .i64 i, .agg #[.int .i64 x, .int .i64 y], .agg #[.int .u8 (e.k : Int), .int .i64 e.cl, .int .i64 e.sq, .int .u8 (e.ok : Int), .string e.key, .string e.old, .string e.val]] w fun r w' => r = .returned (.int .i64 E) ∧ Ext w w' := by
  have HK := Lib.hid hk
  have HR := Lib.hid hr
  have hx2 := ((Ext.refl w).alloc (.cells #[.int .i64 x, .int .i64 y] 38)).alloc (.cells #[.int .u8 (e.k : Int), .int .i64 e.cl, .int .i64 e.sq, .int .u8 (e.ok : Int), .string e.key, .string e.old, .string e.val] 42)
  have HX := Lib.hid hx2
  have HPR := Lib.hid (fun V (hV : Ext w V) => printE_any x y e.k e.cl e.sq e.ok e.key e.old e.val V (hL.ext hV) hok)
  have hne : (E != 0) = true := by simpa using h0
  have HEQ := Lib.hid hE
  clear hk hr hx2 h0 hE hL
  go_enter Tryz.func13, Tryz.ntmps13
  go_wp2_with fail
  refine (HPR.out _ HX.out).mono ?_
  rintro r w1 ⟨A1, c1, rfl, _, hx⟩
  have HX := Lib.hid (HX.out.trans hx)
  clear hx
  go_wp2_with fail
  refine (HK.out _ HX.out).mono ?_
  rintro r w2 ⟨rfl, hx⟩
  have HX := Lib.hid (HX.out.trans hx)
  clear hx
  go_wp2_with fail
  refine (HR.out _ HX.out).mono ?_
  rintro r w3 ⟨rfl, rfl⟩
  go_wp2_with fail
  have hro := heap_alloc_new w2 (.cells #[.int .i64 a, .int .i64 (pR x y e), .int .i64 b] 25)
  have hxo := (Ext.refl w2).alloc (.cells #[.int .i64 a, .int .i64 (pR x y e), .int .i64 b] 25)
  refine (or3E w2.heap.size 3 a (pR x y e) b _ (cell_of_row _ _ 0 _ _ _ hro) (cell_of_row _ _ 1 _ _ _ hro) (cell_of_row _ _ 2 _ _ _ hro)).mono ?_
  rintro r w3 ⟨rfl, rfl⟩
  rw [HEQ.out]
  have HX := Lib.hid (HX.out.trans hxo)
  clear hro hxo
  go_wp2_with fail
  go_ret
  exact ⟨rfl, HX.out⟩

end Go.Proofs.YtmacebglfniegaaGreatDoor

namespace Go.Proofs.YtmacebglfniegaaGreatDoor
open Go Go.RowKit Go.Shelf
attribute [local go_sem] Oper.semAt_some

set_option maxRecDepth 100000 in
set_option maxHeartbeats 800000 in
theorem wall_err {w : World} (p : Option Addr) (E : Int) (h0 : E ≠ 0) (hr : Calls Tryz.prog 47 #[.pointer p] w fun e w' => e = .returned (.int .i64 E) ∧ w = w') :
    Calls Tryz.prog 21 #[.pointer p] w fun e w' => e = .returned (.tuple #[.slice none 0 0, .int .i64 E]) ∧ Ext w w' := by
  have HR := Lib.hid hr
  have hne : (E != 0) = true := by simpa using h0
  clear hr h0
  refine calls_marks Tryz.func21 rfl ?_
  simp only [Tryz.ntmps21, List.size_toArray, List.length_cons, List.length_nil, Nat.reduceAdd, Nat.reduceSub, Array.replicate_succ, Array.replicate_zero, List.push_toArray, List.append_toArray, List.nil_append, List.cons_append]
  go_wp2_with fail
  refine HR.out.mono ?_
  rintro e w1 ⟨rfl, rfl⟩
  go_wp2_with fail
  refine retM0 (v := .tuple #[.slice none 0 0, .int .i64 E]) rfl ?_ ?_
  · simp [results, Tryz.results21, go_sem]
  · exact ⟨rfl, Ext.refl w⟩
end Go.Proofs.YtmacebglfniegaaGreatDoor

namespace Go.Proofs.YtmacebglfniegaaGreatDoor
open Go Go.RowKit

section
variable {w : World} {p : Option Addr}
theorem UnmadeW.ext {w' : World} (h : UnmadeW w p) (k : Ext w w') : UnmadeW w' p := h.imp id fun ⟨q, h1, h2⟩ => ⟨q, h1, ext_of_cell k h2⟩
theorem wget_nil (h : UnmadeW w p) (i : Int) : Calls Tryz.prog 25 #[.pointer p, .int .i64 i] w fun e w' => e = .returned (.tuple #[.agg #[.int .i64 0, .int .u8 0, .int .i64 0, .int .i64 0, .int .u8 0, .int .i64 0, .int .i64 0, .int .u8 0, .string ⟨#[]⟩, .string ⟨#[]⟩, .string ⟨#[]⟩], .int .i64 1]) ∧ Ext w w' :=
  wget_core p i 1 0 {} fun _ hV => wlook_no (h.ext hV) i
theorem wclass_nil (h : UnmadeW w p) (i : Int) : Calls Tryz.prog 26 #[.pointer p, .int .i64 i] w fun e w' => e = .returned (.tuple #[.int .u8 0, .int .i64 1]) ∧ Ext w w' :=
  wclass_core p i 1 0 {} fun _ hV => wlook_no (h.ext hV) i
theorem wall_nil (h : UnmadeW w p) : Calls Tryz.prog 21 #[.pointer p] w fun e w' => e = .returned (.tuple #[.slice none 0 0, .int .i64 1]) ∧ Ext w w' := wall_err p 1 (by decide) (wrunning_no h)
theorem wput_nil (h : UnmadeW w p) (hL : Laid w) (i x y : Int) (e : Ent) (hok : e.ok < 256) : Calls Tryz.prog 13 #[.pointer p, .int .i64 i, .agg #[.int .i64 x, .int .i64 y], .agg #[.int .u8 (e.k : Int), .int .i64 e.cl, .int .i64 e.sq, .int .u8 (e.ok : Int), .string e.key, .string e.old, .string e.val]] w fun e w' => e = .returned (.int .i64 1) ∧ Ext w w' :=
  wput_no p i x y e 1 1 1 rfl (by decide) hL hok (fun V hV => (wknown_no (h.ext hV) i).mono fun _ _ hh => ⟨hh.1, hh.2 ▸ Ext.refl V⟩) (fun V hV => wrunning_no (h.ext hV))
end
theorem rep_neq_self (i x y : Int) (st k : Nat) (cl sq : Int) (ok : Nat) (key old val : ByteArray) (w : World) :
    (binOp .neq 78 (.agg #[.int .i64 i, .int .u8 (st : Int), .int .i64 x, .int .i64 y, .int .u8 (k : Int), .int .i64 cl, .int .i64 sq, .int .u8 (ok : Int), .string key, .string old, .string val]) (.agg #[.int .i64 i, .int .u8 (st : Int), .int .i64 x, .int .i64 y, .int .u8 (k : Int), .int .i64 cl, .int .i64 sq, .int .u8 (ok : Int), .string key, .string old, .string val])).run Tryz.prog w = .ok (.bool false) w := by
  have hf : Tryz.prog.stoodInHeld 78 = false := by kernel_rfl
  have hu := Tryz.underlying78
  have hub := Tryz.underlying38
  have hue := Tryz.underlying42
  have huo := Tryz.underlying40
  rw [run_neq_struct, run_equalIn_agg _ _ _ _ _ (by rw [Program.fieldsOf, hu]) hf, Program.fieldsOf, hu]
  simp [Op.eqFields, go_sem]
theorem neq_rep (w : World) : (binOp .neq 78 (.agg #[.int .i64 0, .int .u8 0, .int .i64 0, .int .i64 0, .int .u8 0, .int .i64 0, .int .i64 0, .int .u8 0, .string ⟨#[]⟩, .string ⟨#[]⟩, .string ⟨#[]⟩]) (.agg #[.int .i64 0, .int .u8 0, .int .i64 0, .int .i64 0, .int .u8 0, .int .i64 0, .int .i64 0, .int .u8 0, .string ⟨#[]⟩, .string ⟨#[]⟩, .string ⟨#[]⟩])).run Tryz.prog w = .ok (.bool false) w := rep_neq_self 0 0 0 0 0 0 0 0 _ _ _ w
end Go.Proofs.YtmacebglfniegaaGreatDoor
