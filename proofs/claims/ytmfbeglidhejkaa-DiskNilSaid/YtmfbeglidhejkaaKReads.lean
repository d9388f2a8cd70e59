/-
  The contracts of the statements' reads and Great; a disk since a world.
-/
import Derived.Test.YtmfbeglidhejkaaKDo
namespace Go.Proofs.Ytmfbeglidhejkaa
open Go Go.RowKit

/-- The disk at d, all of whose blocks were made since w0; nothing that was there in w0 has been written. -/
structure DK (w0 w : World) (d : Nat) (F : Nat → Prop) (m : DM) : Prop where
  disk : PDisk w d F m
  low : ∀ k, F k → w0.heap.size ≤ k
  bel : Ext w0 w
theorem DK.ext {w0 w w' : World} {d : Nat} {F : Nat → Prop} {m : DM} (h : DK w0 w d F m) (k : Ext w w') : DK w0 w' d F m := ⟨h.disk.ext k, h.low, h.bel.trans k⟩
theorem DK.step {w0 w w' : World} {d : Nat} {F : Nat → Prop} {m m' : DM} (h : DK w0 w d F m) (hp : PDisk w' d (grow F w w') m') (hm : Mod F w w') : DK w0 w' d (grow F w w') m' :=
  ⟨hp, fun k hk => hk.elim (h.low k) fun h2 => Nat.le_trans h.bel.size h2.1, Below.mod h.bel hm h.bel.size h.low⟩
theorem DK.mod {w0 w w' : World} {d : Nat} {F G : Nat → Prop} {m : DM} (h : DK w0 w d F m) (hm : Mod G w w') (hG : ∀ k, F k → ¬ G k) (hl : ∀ k, G k → w0.heap.size ≤ k) : DK w0 w' d F m :=
  ⟨h.disk.mod hm hG, h.low, Below.mod h.bel hm h.bel.size hl⟩
theorem DK.fresh {w0 w : World} {d : Nat} {F : Nat → Prop} {m : DM} (h : DK w0 w d F m) {w' : World} {A : Option Addr} {n c : Nat} {e sz : Nat} {xs : List Value} (ho : w'.ownsRow w.heap.size e sz (.slice A n c) n xs) : Off F A := fun p hp hf => by
  subst hp
  have := (ho.lt p.block rfl).1
  have := h.disk.lt _ hf
  omega
/-- Values that came in lie in none of the disk's blocks. -/
theorem DK.vs {w0 w : World} {d : Nat} {F : Nat → Prop} {m : DM} (h : DK w0 w d F m) {A : Option Addr} {n c : Nat} {vs : List Value} (hv : Vs w0 w0.heap.size A n c vs) : 0 < n → Off F A := fun hn p hp hf => by
  obtain ⟨g, o, e, hg, _⟩ := hv.rd hn
  rw [e] at hp
  injection hp with hp
  subst hp
  have := h.low _ hf
  have hg' : g < w0.heap.size := hg
  have : w0.heap.size ≤ g := this
  omega
/-- What was there in w0 lies in none of the disk's blocks. -/
theorem DK.old {w0 w : World} {d : Nat} {F : Nat → Prop} {m : DM} (h : DK w0 w d F m) {A : Option Addr} (hA : ∀ p, A = some p → p.block < w0.heap.size) : Off F A := fun p hp hf => by
  have := hA p hp
  have := h.low _ hf
  omega
theorem Act5.sector (n : Int) (w : World) (B : Nat) (hn : (Lit.int .i64 n).wf = true) : ({ num := n } : Act5).Ok w B :=
  ⟨by show (0 : Nat) < 256; omega, rfl, hn, ⟨rfl, Nat.le_refl _, by show (0 : Nat) ≤ 9223372036854775807; omega, Rd.nil_, fun _ => rfl⟩, ⟨rfl, Nat.le_refl _, by show (0 : Nat) ≤ 9223372036854775807; omega, fun h => absurd h (by show ¬ (0 < 0); omega), fun _ => rfl⟩⟩
theorem rep_of (x : Nat) (hx : x < 256) : actB (x : Int) [] = List.replicate 64 x := by
  unfold actB
  rw [if_pos rfl]
  congr 1
  omega
theorem nat_wf (x : Nat) (hx : x < 256) : (Lit.int .i64 (x : Int)).wf = true := by
  have h1 : (IntKind.i64.min : Int) ≤ (x : Int) := by rw [show (IntKind.i64.min : Int) = -9223372036854775808 by decide]; omega
  have h2 : (x : Int) ≤ IntKind.i64.max := by rw [IntKind.max_i64]; omega
  show (decide (IntKind.i64.min ≤ (x : Int)) && decide ((x : Int) ≤ IntKind.i64.max)) = true
  rw [decide_eq_true h1, decide_eq_true h2]
  rfl
/-- What Sector makes of a number below 256. -/
theorem sector_n (x : Nat) (hx : x < 256) (w : World) :
    Calls Try.prog 24 #[.agg #[.int .u8 0, .int .i64 0, .int .i64 (x : Int), .slice none 0 0, .slice none 0 0]] w fun e w' => ∃ A n c, e = .returned (.slice A n c) ∧ w'.ownsRow w.heap.size 5 1 (.slice A n c) n (vb (List.replicate 64 x)) ∧ Ext w w' := by
  have h := sector_of { num := (x : Int) } w (Act5.sector _ _ _ (nat_wf x hx)) (show (0 : Nat) ≤ 140737488355328 by omega)
  rw [rep_of x hx] at h
  exact h

set_option maxRecDepth 100000 in
set_option maxHeartbeats 1600000 in
theorem reads_of {w : World} {d : Nat} {F : Nat → Prop} {m : DM} (h : PDisk w d F m) (s : Int) (x : Nat) (hx : x < 256) (hfew : m.waits.length ≤ 1000000) :
    Calls Try.prog 27 #[.pointer (some ⟨d, 0, none⟩), .int .i64 s, .int .u8 (x : Int)] w fun e w' => e = .returned (.bool (decide (m.read s = (List.replicate 64 x, 0)))) ∧ Ext w w' := by
  have hr := read_pd h s hfew
  obtain ⟨l, hl⟩ : ∃ l, (m.read s).1 = l := ⟨_, rfl⟩
  obtain ⟨E, hE⟩ : ∃ E, (m.read s).2 = E := ⟨_, rfl⟩
  rw [hl, hE] at hr
  have HD : Hid (decide (m.read s = (List.replicate 64 x, 0)) = (decide (E = 0) && decide (l = List.replicate 64 x))) := Lib.hid (by
    rw [← hl, ← hE]
    rcases m.read s with ⟨a, b⟩
    by_cases h1 : b = 0 <;> by_cases h2 : a = List.replicate 64 x <;> simp [h1, h2])
  have HR := Lib.hid hr
  have HX := Lib.hid hx
  clear h hr hl hE hfew
  by_cases h0 : E = 0
  · subst h0
    have hw : wrap64 (x : Int) = (x : Int) := IntWalk.wrap64_in _ (by omega)
    clear hx
    go_enter Try.func27, Try.ntmps27
    go_wp2_with fail
    refine HR.out.mono ?_
    rintro e w1 ⟨A, n, rfl, hnew, hx1⟩
    have HN := Lib.hid hnew
    have HX1 := Lib.hid hx1
    clear hnew hx1
    go_wp2_with fail
    refine (sector_n x HX.out _).mono ?_
    rintro e w2 ⟨A2, n2, c2, rfl, hown, hx2⟩
    have HB := Lib.hid (HN.out.by.ext hx2)
    have HO := Lib.hid (Bs.of_own hown (fun b hb => by rw [(List.mem_replicate.1 hb).2]; exact HX.out))
    have HX2 := Lib.hid (HX1.out.trans hx2)
    clear hown hx2
    go_wp2_with fail
    refine (same_by A A2 l (List.replicate 64 x) n n2 n c2 _ HB.out HO.out).mono ?_
    rintro e w3 ⟨rfl, hx3⟩
    have HX3 := Lib.hid (HX2.out.trans hx3)
    clear hx3
    go_wp2_with fail
    go_ret
    exact ⟨by rw [HD.out]; simp, HX3.out⟩
  · have hne : (E == 0) = false := by simpa using h0
    have HD1 : Hid (decide (m.read s = (List.replicate 64 x, 0)) = false) := Lib.hid (by rw [HD.out]; simp [h0])
    clear h0 hx HD
    go_enter Try.func27, Try.ntmps27
    go_wp2_with fail
    refine HR.out.mono ?_
    rintro e w1 ⟨A, n, rfl, hnew, hx1⟩
    have HX1 := Lib.hid hx1
    clear hnew hx1
    go_wp2_with fail
    go_ret
    exact ⟨by rw [HD1.out]; rfl, HX1.out⟩
end Go.Proofs.Ytmfbeglidhejkaa
