/-
  CellHealed: what was loaded once behind a crash amid a Store, and healed, is loaded behind the damage of either copy.
-/
import Derived.Test.YtbflofkcfhihcaaDoorQ31
namespace Go.Proofs.YtbflofkcfhihcaaDoor
open Go Go.RowKit

theorem Load_dko {w0 w : World} {d : Nat} {F : Nat → Prop} {m : DM} (h : DK w0 w d F m) (hL : LaidF w0) (g : Int) (hk : knownC m.size 0 g = 0) (hfew : m.waits.length ≤ 1000000) (v : Nat) (b : List Nat) (hl : Ld m g v b) : Calls Tryd.prog 9 #[.pointer (some ⟨d, 0, none⟩), .int .i64 0, .int .i64 g] w fun e w' => ∃ A N, e = .returned (.tuple #[.int .i64 (v : Nat), .slice A N N, .int .i64 0]) ∧ By w' A N N b ∧ (∀ g o, A = some ⟨g, o, none⟩ → 0 < N → ¬ F g) ∧ DK w0 w' d F m := by
  have := Load_own h.disk (hL.ext h.bel) 0 g hfew hk
  rw [hl.e, hl.v, hl.b] at this
  exact this.mono fun _ _ ⟨A, N, h1, h2, h3, h4⟩ => ⟨A, N, h1, h2, fun g o hA hN hf => absurd (h.disk.lt g hf) (by have := h3 g o hA hN; omega), h.ext h4⟩
theorem heal_step {w0 w : World} {d : Nat} {F : Nat → Prop} {m m' : DM} (h : DK w0 w d F m) (hL : LaidF w0) (g : Int) (hk : knownC m.size 0 g = 0) (hfew : m.waits.length + 1 ≤ 1000000) (hh : m.heal 0 g = (0, m')) (A : Option Addr) (N : Nat) (b : List Nat) (hb : By w A N N b) (ho : ∀ g o, A = some ⟨g, o, none⟩ → 0 < N → ¬ F g) : Calls Tryd.prog 10 #[.pointer (some ⟨d, 0, none⟩), .int .i64 0, .int .i64 g] w fun e w' => e = .returned (.int .i64 0) ∧ ∃ F', DK w0 w' d F' m' ∧ By w' A N N b ∧ ∀ g o, A = some ⟨g, o, none⟩ → 0 < N → ¬ F' g := by
  have := Heal_of h.disk (hL.ext h.bel) 0 g hfew hk
  rw [hh] at this
  exact this.mono fun _ w' ⟨h1, h2⟩ => ⟨h1, _, h.st h2, hb.mod0 h2.2 ho, fun g o hA hN hf => by
    rcases hf with hf | hf
    · exact ho g o hA hN hf
    · obtain ⟨g2, o2, e2, hg2, _⟩ := hb.rd.2 (by rw [hb.len]; exact hN)
      rw [hA] at e2
      injection e2 with e2
      injection e2 with e3 _
      have h3 := hf.1
      rw [e3] at h3
      exact absurd hg2 (by show ¬ g2 < w.heap.size; omega)⟩
theorem lose_step {w0 w : World} {d : Nat} {F : Nat → Prop} {m m' : DM} (h : DK w0 w d F m) (s : Int) (hl : m.lose s = (0, m')) (A : Option Addr) (N : Nat) (b : List Nat) (hb : By w A N N b) (ho : ∀ g o, A = some ⟨g, o, none⟩ → 0 < N → ¬ F g) : Calls Tryd.prog 20 #[.pointer (some ⟨d, 0, none⟩), .int .i64 s] w fun e w' => e = .returned (.int .i64 0) ∧ ∃ F', DK w0 w' d F' m' ∧ By w' A N N b ∧ ∀ g o, A = some ⟨g, o, none⟩ → 0 < N → ¬ F' g := by
  have := lose_pd h.disk s
  rw [hl] at this
  exact this.mono fun _ w' hh => ⟨hh.1, _, h.step hh.2.1 hh.2.2, hb.mod0 hh.2.2 ho, fun g o hA hN hf => by
    rcases hf with hf | hf
    · exact ho g o hA hN hf
    · obtain ⟨g2, o2, e2, hg2, _⟩ := hb.rd.2 (by rw [hb.len]; exact hN)
      rw [hA] at e2
      injection e2 with e2
      injection e2 with e3 _
      have h3 := hf.1
      rw [e3] at h3
      exact absurd hg2 (by show ¬ g2 < w.heap.size; omega)⟩
/-- One copy of two is lost. -/
theorem Two.lost {m : DM} {g : Int} {v : Nat} {b : List Nat} (hd : CD m (-1)) (hg : g = 1 ∨ g = 2) (h : Two m g v b) (hv : 1 ≤ v) {p : Nat} (hp : p ≤ 1) : ∃ m', m.lose (secV g p : Nat) = (0, m') ∧ CD m' (-1) ∧ Some1 m' g v b := by
  obtain ⟨m', e, h1, k⟩ := hd.lose (secV_lt hg hp)
  refine ⟨m', e, h1, ?_⟩
  rcases h with ⟨rfl, _⟩ | ⟨_, c, c2, h0, h2⟩
  · omega
  · have hpp : p = 0 ∨ p = 1 := by omega
    rcases hpp with rfl | rfl
    · refine .inr (.inr ⟨hv, c2, by rw [k, if_neg (fun e => secV_ne e.symm)]; exact h2, ?_⟩)
      rw [k, if_pos rfl, no_copy (by rw [nil_bad]; omega)]
      omega
    · refine .inr (.inl ⟨hv, c, by rw [k, if_neg secV_ne]; exact h0, ?_, fun hq => ?_⟩)
      · rw [k, if_pos rfl, no_copy (by rw [nil_bad]; omega)]; omega
      · rw [k, if_pos rfl, no_copy (by rw [nil_bad]; omega)] at hq; omega
theorem first1 (p : Nat) (hp : p ≤ 1) {w0 w : World} {d : Nat} {F : Nat → Prop} {m : DM} (h : DK w0 w d F m) (hL : LaidF w0) : Calls Tryd.prog 21 #[.int .i64 1, .int .i64 (p : Int)] w fun e w' => e = .returned (.int .i64 (secV 1 p : Nat)) ∧ Ext w w' ∧ DK w0 w' d F m := by
  have := first_any 1 (p : Int) w (hL.ext h.bel).a.t
  rw [secV_first (.inl rfl) hp] at this
  exact this.mono fun _ _ ⟨h1, h2⟩ => ⟨h1, h2, h.ext h2⟩

theorem loads_ext {w0 w : World} {d : Nat} {F : Nat → Prop} {m : DM} (h : DK w0 w d F m) (hL : LaidF w0) (g v : Int) (A : Option Addr) (n cp : Nat) (body : List Nat) (hb : By w A n cp body) (hs : m.size = 156) (hg : g = 1 ∨ g = 2) (hfew : m.waits.length ≤ 1000000) (k : Nat) (hl : Ld m g k body) (hv : v = (k : Int)) :
    Calls Tryd.prog 18 #[.pointer (some ⟨d, 0, none⟩), .int .i64 g, .int .i64 v, .slice A n cp] w fun e w' => e = .returned (.bool true) ∧ Ext w w' := by
  have hld := Load_dk h hL 0 g (known0 hs hg) hfew
  rw [hl.e, hl.v, hl.b] at hld
  subst hv
  have HLD := Lib.hid hld
  have HB := Lib.hid hb
  clear h hL hb hs hg hfew hl hld
  go_enter Tryd.func18, Tryd.ntmps18
  go_wp2_with fail
  refine HLD.out.mono ?_
  rintro e w1 ⟨A1, N1, rfl, hb1, hx⟩
  have HB1 := Lib.hid hb1
  have HB := Lib.hid (HB.out.ext hx)
  have HX := Lib.hid hx
  clear hb1 hx
  go_wp2_with fail
  refine (same_by A1 A body body _ _ _ _ _ HB1.out HB.out).mono ?_
  rw [decide_eq_true (rfl : body = body)]
  rintro e w2 ⟨rfl, hx⟩
  have HX := Lib.hid (HX.out.trans hx)
  clear hx
  go_wp2_with fail
  go_ret
  exact ⟨rfl, HX.out⟩

theorem loads_yes' {w0 w : World} {d : Nat} {F : Nat → Prop} {m : DM} (h : DK w0 w d F m) (hL : LaidF w0) (g v : Int) (A : Option Addr) (n cp : Nat) (body : List Nat) (hb : By w A n cp body) (_ : ∀ g o, A = some ⟨g, o, none⟩ → 0 < n → ¬ F g) (hs : m.size = 156) (hg : g = 1 ∨ g = 2) (hfew : m.waits.length ≤ 1000000) (k : Nat) (hl : Ld m g k body) (hv : v = (k : Int)) :
    Calls Tryd.prog 18 #[.pointer (some ⟨d, 0, none⟩), .int .i64 g, .int .i64 v, .slice A n cp] w fun e w' => e = .returned (.bool true) ∧ DK w0 w' d F m ∧ By w' A n cp body :=
  (loads_ext h hL g v A n cp body hb hs hg hfew k hl hv).mono fun _ _ ⟨h1, h2⟩ => ⟨h1, h.ext h2, hb.ext h2⟩

set_option maxRecDepth 100000 in
set_option maxHeartbeats 1600000 in
theorem healed_false (A : Option Addr) (n c : Nat) (l : List Lst) (A2 : Option Addr) (n2 c2 : Nat) (body : List Nat) (p : Nat) (kA : Option Addr) (kn kc : Nat) (kl : List Bool) (w : World) (h1 : Lsts w w.heap.size A n c l) (h2 : Bs w w.heap.size A2 n2 c2 body) (h3 : Vs w w.heap.size kA kn kc (kl.map .bool)) (hL : LaidF w) :
    Calls Tryd.prog 5 #[.slice A n c, .slice A2 n2 c2, .int .u8 (p : Int), .slice kA kn kc, .bool false] w fun e w' => e = .returned (.bool true) ∧ Ext w w' := by
  have H1 := Lib.hid h1
  have H2 := Lib.hid h2
  have H3 := Lib.hid h3
  have HL := Lib.hid hL
  have hn0 := Nat.zero_le n
  have hq2 := Nat.zero_le n2
  have hq3 := Nat.zero_le kn
  obtain ⟨k, hk⟩ : ∃ k, p % 6 = k := ⟨_, rfl⟩
  have hk6 : k < 6 := by omega
  have hrm : ((p : Nat) : Int).tmod 6 = (k : Int) := by rw [Int.tmod_eq_emod_of_nonneg (by omega)]; omega
  have hwk : wrap64 (k : Int) = (k : Int) := IntWalk.wrap64_in _ (by omega)
  clear h1 h2 h3 hL hk
  go_enter Tryd.func5, Tryd.ntmps5
  go_wp2_with fail
  refine (cawake_any w w (Ext.refl w) HL.out).mono ?_
  rintro e w1 ⟨rfl, hx⟩
  have HX := Lib.hid hx
  clear hx
  go_wp2_with fail
  refine (great7_of A n c l (H1.out.below HX.out)).mono ?_
  rintro e w1' ⟨b, rfl, rfl, hg1⟩
  cases b with
  | true =>
    go_wp2_with fail
    go_ret
    exact ⟨rfl, HX.out⟩
  | false =>
    obtain ⟨hn20, hall1⟩ := hg1 rfl
    have HA1 := Lib.hid hall1
    clear hg1 hall1
    by_cases hb43 : 43 < n2
    · go_wp2_with fail
      go_ret
      exact ⟨rfl, HX.out⟩
    by_cases hk10 : 10 < kn
    · go_wp2_with fail
      go_ret
      exact ⟨rfl, HX.out⟩
    have HBL : Hid (body.length ≤ 43) := Lib.hid (by rw [H2.out.len]; omega)
    go_wp2_with fail
    refine (new_dk HX.out).mono ?_
    rintro e w2 ⟨d, F, rfl, hk⟩
    have HK := Lib.hid hk
    clear hk
    go_wp2_with fail
    refine (stored_of HK.out HL.out CD.new 1 (.inl rfl) (new_two (.inl rfl)) A n c l H1.out hn20 HA1.out).mono ?_
    rintro e w3 ⟨rfl, F3, m3, hk, hd3, ht3, _⟩
    have HK := Lib.hid hk
    obtain ⟨m4, e4, d4, o4⟩ := hd3.power_ k
    have ht4 := ht3.of_eq (m' := m4) (o4 _) (o4 _)
    have hpw := Two.power d4 (.inl rfl) ht4 (by omega) (c := 99) (by omega) HBL.out H2.out.rd.lt kl
    obtain ⟨E5, hE5⟩ : ∃ E5, (m4.store 0 1 99 body).1 = E5 := ⟨_, rfl⟩
    obtain ⟨m5, hm5⟩ : ∃ m5, (m4.store 0 1 99 body).2 = m5 := ⟨_, rfl⟩
    have hs5 : m4.store 0 1 99 body = (E5, m5) := by rw [← hE5, ← hm5]
    rw [show (((99 : Nat) : Int)) = 99 from rfl, hE5, hm5] at hpw
    replace hpw := hpw.2
    obtain ⟨q2, q3, q4, q5, _⟩ := hpw
    obtain ⟨V, B, hs7, hV0⟩ : ∃ (V : Nat) (B : List Nat), Some1 (m5.crash kl).2.start.2 1 V B ∧ (V = 0 → n = 0) := by
      rcases q5 with h | h
      · exact ⟨_, _, h, fun h => h⟩
      · exact ⟨_, _, h, fun h => by omega⟩
    obtain ⟨m8, e8, d8, t8⟩ := hs7.heal q4 (.inl rfl)
    have P4 := Lib.hid e4
    have D4 := Lib.hid d4
    have P5 := Lib.hid hs5
    have P6 := Lib.hid (And.intro q2 q3)
    have D7 := Lib.hid q4
    have L7 := Lib.hid (q4.ld (.inl rfl) hs7.ldd)
    have P8 := Lib.hid e8
    have D8 := Lib.hid d8
    have T8 := Lib.hid t8
    have L8 := Lib.hid (d8.ld (.inl rfl) t8.ldd)
    clear hk hd3 ht3 e4 d4 o4 ht4 hE5 hm5 hs5 q2 q3 q4 q5 hs7 e8 d8 t8
    go_wp2_with fail
    refine (power_dk HK.out (k : Int) 0 (by omega) P4.out).mono ?_
    rintro e w4 ⟨rfl, hk⟩
    have HK := Lib.hid hk
    clear hk
    go_wp2_with fail
    have hst := Store_dk HK.out HL.out 0 1 99 A2 n2 c2 body (HK.out.byIn H2.out) (HK.out.offB H2.out) (known0 D4.out.b.size (.inl rfl)) (by rw [D4.out.b.waits]; simp)
    rw [P5.out] at hst
    refine hst.mono ?_
    rintro e w5 ⟨rfl, hk⟩
    have HK := Lib.hid hk
    clear hk hst
    go_wp2_with fail
    have hcr := crash_dk HK.out kA kn kc kl H3.out
    rw [P6.out.1] at hcr
    refine hcr.mono ?_
    rintro e w6 ⟨rfl, hk⟩
    have HK := Lib.hid hk
    clear hk hcr
    go_wp2_with fail
    have hsr := start_dk HK.out
    rw [P6.out.2] at hsr
    refine hsr.mono ?_
    rintro e w7 ⟨rfl, hk⟩
    have HK := Lib.hid hk
    clear hk hsr
    go_wp2_with fail
    refine (Load_dko HK.out HL.out 1 (known0 D7.out.b.size (.inl rfl)) (by rw [D7.out.b.waits]; simp) V B L7.out).mono ?_
    rintro e w8 ⟨AB, NB, rfl, hb, ho, hk⟩
    have HK := Lib.hid hk
    have HB := Lib.hid hb
    have HO := Lib.hid ho
    clear hk hb ho
    go_wp2_with fail
    refine (heal_step HK.out HL.out 1 (known0 D7.out.b.size (.inl rfl)) (by rw [D7.out.b.waits]; simp) P8.out AB NB B HB.out HO.out).mono ?_
    rintro e w9 ⟨rfl, F9, hk, hb, ho⟩
    have HK := Lib.hid hk
    have HB := Lib.hid hb
    have HO := Lib.hid ho
    clear hk hb ho
    go_wp2_with fail
    refine (waits_dk HK.out D8.out.b.waits).mono ?_
    rintro e wa ⟨rfl, rfl⟩
    go_wp2_with fail
    refine (loads_yes' HK.out HL.out 1 _ AB NB NB B HB.out HO.out D8.out.b.size (.inl rfl) (by rw [D8.out.b.waits]; simp) V L8.out rfl).mono ?_
    rintro e wb ⟨rfl, hk, hb⟩
    have HK := Lib.hid hk
    have HB := Lib.hid hb
    clear hk hb
    by_cases hv : V = 0
    · subst hv
      obtain rfl := hV0 rfl
      go_wp2_with fail
      go_ret
      exact ⟨rfl, HK.out.bel⟩
    · have hv1 : ((V : Int) == 0) = false := by rw [beq_eq_false_iff_ne]; omega
      obtain ⟨m9, e9, d9, s9⟩ := T8.out.lost D8.out (.inl rfl) (by omega) (p := 0) (by omega)
      obtain ⟨ma, ea, da, ta⟩ := s9.heal d9 (.inl rfl)
      obtain ⟨mb, eb, db, sb⟩ := ta.lost da (.inl rfl) (by omega) (p := 1) (by omega)
      have P9 := Lib.hid e9
      have D9 := Lib.hid d9
      have L9 := Lib.hid (d9.ld (.inl rfl) s9.ldd)
      have PA := Lib.hid ea
      have DA := Lib.hid da
      have PB := Lib.hid eb
      have DB := Lib.hid db
      have LB := Lib.hid (db.ld (.inl rfl) sb.ldd)
      clear e9 d9 s9 ea da ta eb db sb hV0 hv
      go_wp2_with fail
      refine (first1 0 (by omega) HK.out HL.out).mono ?_
      rintro e wc ⟨rfl, hx, hk⟩
      have HK := Lib.hid hk
      have HB := Lib.hid (HB.out.ext hx)
      clear hx hk
      go_wp2_with fail
      refine (lose_step HK.out _ P9.out AB NB B HB.out HO.out).mono ?_
      rintro e wd ⟨rfl, Fd, hk, hb, ho⟩
      have HK := Lib.hid hk
      have HB := Lib.hid hb
      have HO := Lib.hid ho
      clear hk hb ho
      go_wp2_with fail
      refine (loads_yes' HK.out HL.out 1 _ AB NB NB B HB.out HO.out D9.out.b.size (.inl rfl) (by rw [D9.out.b.waits]; simp) V L9.out rfl).mono ?_
      rintro e we ⟨rfl, hk, hb⟩
      have HK := Lib.hid hk
      have HB := Lib.hid hb
      clear hk hb
      go_wp2_with fail
      refine (heal_step HK.out HL.out 1 (known0 D9.out.b.size (.inl rfl)) (by rw [D9.out.b.waits]; simp) PA.out AB NB B HB.out HO.out).mono ?_
      rintro e wg ⟨rfl, Fg, hk, hb, ho⟩
      have HK := Lib.hid hk
      have HB := Lib.hid hb
      have HO := Lib.hid ho
      clear hk hb ho
      go_wp2_with fail
      refine (first1 1 (by omega) HK.out HL.out).mono ?_
      rintro e wh ⟨rfl, hx, hk⟩
      have HK := Lib.hid hk
      have HB := Lib.hid (HB.out.ext hx)
      clear hx hk
      go_wp2_with fail
      refine (lose_step HK.out _ PB.out AB NB B HB.out HO.out).mono ?_
      rintro e wi ⟨rfl, Fi, hk, hb, ho⟩
      have HK := Lib.hid hk
      have HB := Lib.hid hb
      have HO := Lib.hid ho
      clear hk hb ho
      go_wp2_with fail
      refine (loads_yes' HK.out HL.out 1 _ AB NB NB B HB.out HO.out DB.out.b.size (.inl rfl) (by rw [DB.out.b.waits]; simp) V LB.out rfl).mono ?_
      rintro e wj ⟨rfl, hk, hb⟩
      have HK := Lib.hid hk
      clear hk hb
      go_wp2_with fail
      go_ret
      exact ⟨rfl, HK.out.bel⟩

set_option maxRecDepth 100000 in
set_option maxHeartbeats 1600000 in
theorem healed_true (A : Option Addr) (n c : Nat) (l : List Lst) (A2 : Option Addr) (n2 c2 : Nat) (body : List Nat) (p : Nat) (kA : Option Addr) (kn kc : Nat) (kl : List Bool) (w : World) (h1 : Lsts w w.heap.size A n c l) (h2 : Bs w w.heap.size A2 n2 c2 body) (h3 : Vs w w.heap.size kA kn kc (kl.map .bool)) (hL : LaidF w) :
    Calls Tryd.prog 5 #[.slice A n c, .slice A2 n2 c2, .int .u8 (p : Int), .slice kA kn kc, .bool true] w fun e w' => e = .returned (.bool true) ∧ Ext w w' := by
  have H1 := Lib.hid h1
  have H2 := Lib.hid h2
  have H3 := Lib.hid h3
  have HL := Lib.hid hL
  have hn0 := Nat.zero_le n
  have hq2 := Nat.zero_le n2
  have hq3 := Nat.zero_le kn
  obtain ⟨k, hk⟩ : ∃ k, p % 6 = k := ⟨_, rfl⟩
  have hk6 : k < 6 := by omega
  have hrm : ((p : Nat) : Int).tmod 6 = (k : Int) := by rw [Int.tmod_eq_emod_of_nonneg (by omega)]; omega
  have hwk : wrap64 (k : Int) = (k : Int) := IntWalk.wrap64_in _ (by omega)
  clear h1 h2 h3 hL hk
  go_enter Tryd.func5, Tryd.ntmps5
  go_wp2_with fail
  refine (cawake_any w w (Ext.refl w) HL.out).mono ?_
  rintro e w1 ⟨rfl, hx⟩
  have HX := Lib.hid hx
  clear hx
  go_wp2_with fail
  refine (great7_of A n c l (H1.out.below HX.out)).mono ?_
  rintro e w1' ⟨b, rfl, rfl, hg1⟩
  cases b with
  | true =>
    go_wp2_with fail
    go_ret
    exact ⟨rfl, HX.out⟩
  | false =>
    obtain ⟨hn20, hall1⟩ := hg1 rfl
    have HA1 := Lib.hid hall1
    clear hg1 hall1
    by_cases hb43 : 43 < n2
    · go_wp2_with fail
      go_ret
      exact ⟨rfl, HX.out⟩
    by_cases hk10 : 10 < kn
    · go_wp2_with fail
      go_ret
      exact ⟨rfl, HX.out⟩
    have HBL : Hid (body.length ≤ 43) := Lib.hid (by rw [H2.out.len]; omega)
    go_wp2_with fail
    refine (new_dk HX.out).mono ?_
    rintro e w2 ⟨d, F, rfl, hk⟩
    have HK := Lib.hid hk
    clear hk
    go_wp2_with fail
    refine (stored_of HK.out HL.out CD.new 1 (.inl rfl) (new_two (.inl rfl)) A n c l H1.out hn20 HA1.out).mono ?_
    rintro e w3 ⟨rfl, F3, m3, hk, hd3, ht3, _⟩
    have HK := Lib.hid hk
    obtain ⟨m4, e4, d4, o4⟩ := hd3.power_ k
    have ht4 := ht3.of_eq (m' := m4) (o4 _) (o4 _)
    have hpw := Two.power d4 (.inl rfl) ht4 (by omega) (c := 99) (by omega) HBL.out H2.out.rd.lt kl
    obtain ⟨E5, hE5⟩ : ∃ E5, (m4.store 0 1 99 body).1 = E5 := ⟨_, rfl⟩
    obtain ⟨m5, hm5⟩ : ∃ m5, (m4.store 0 1 99 body).2 = m5 := ⟨_, rfl⟩
    have hs5 : m4.store 0 1 99 body = (E5, m5) := by rw [← hE5, ← hm5]
    rw [show (((99 : Nat) : Int)) = 99 from rfl, hE5, hm5] at hpw
    replace hpw := hpw.2
    obtain ⟨q2, q3, q4, q5, _⟩ := hpw
    obtain ⟨V, B, hs7, hV0⟩ : ∃ (V : Nat) (B : List Nat), Some1 (m5.crash kl).2.start.2 1 V B ∧ (V = 0 → n = 0) := by
      rcases q5 with h | h
      · exact ⟨_, _, h, fun h => h⟩
      · exact ⟨_, _, h, fun h => by omega⟩
    obtain ⟨m8, e8, d8, t8⟩ := hs7.heal q4 (.inl rfl)
    have P4 := Lib.hid e4
    have D4 := Lib.hid d4
    have P5 := Lib.hid hs5
    have P6 := Lib.hid (And.intro q2 q3)
    have D7 := Lib.hid q4
    have L7 := Lib.hid (q4.ld (.inl rfl) hs7.ldd)
    have P8 := Lib.hid e8
    have D8 := Lib.hid d8
    have T8 := Lib.hid t8
    have L8 := Lib.hid (d8.ld (.inl rfl) t8.ldd)
    clear hk hd3 ht3 e4 d4 o4 ht4 hE5 hm5 hs5 q2 q3 q4 q5 hs7 e8 d8 t8
    go_wp2_with fail
    refine (power_dk HK.out (k : Int) 0 (by omega) P4.out).mono ?_
    rintro e w4 ⟨rfl, hk⟩
    have HK := Lib.hid hk
    clear hk
    go_wp2_with fail
    have hst := Store_dk HK.out HL.out 0 1 99 A2 n2 c2 body (HK.out.byIn H2.out) (HK.out.offB H2.out) (known0 D4.out.b.size (.inl rfl)) (by rw [D4.out.b.waits]; simp)
    rw [P5.out] at hst
    refine hst.mono ?_
    rintro e w5 ⟨rfl, hk⟩
    have HK := Lib.hid hk
    clear hk hst
    go_wp2_with fail
    have hcr := crash_dk HK.out kA kn kc kl H3.out
    rw [P6.out.1] at hcr
    refine hcr.mono ?_
    rintro e w6 ⟨rfl, hk⟩
    have HK := Lib.hid hk
    clear hk hcr
    go_wp2_with fail
    have hsr := start_dk HK.out
    rw [P6.out.2] at hsr
    refine hsr.mono ?_
    rintro e w7 ⟨rfl, hk⟩
    have HK := Lib.hid hk
    clear hk hsr
    go_wp2_with fail
    refine (Load_dko HK.out HL.out 1 (known0 D7.out.b.size (.inl rfl)) (by rw [D7.out.b.waits]; simp) V B L7.out).mono ?_
    rintro e w8 ⟨AB, NB, rfl, hb, ho, hk⟩
    have HK := Lib.hid hk
    have HB := Lib.hid hb
    have HO := Lib.hid ho
    clear hk hb ho
    go_wp2_with fail
    refine (heal_step HK.out HL.out 1 (known0 D7.out.b.size (.inl rfl)) (by rw [D7.out.b.waits]; simp) P8.out AB NB B HB.out HO.out).mono ?_
    rintro e w9 ⟨rfl, F9, hk, hb, ho⟩
    have HK := Lib.hid hk
    have HB := Lib.hid hb
    have HO := Lib.hid ho
    clear hk hb ho
    go_wp2_with fail
    refine (waits_dk HK.out D8.out.b.waits).mono ?_
    rintro e wa ⟨rfl, rfl⟩
    go_wp2_with fail
    refine (loads_yes' HK.out HL.out 1 _ AB NB NB B HB.out HO.out D8.out.b.size (.inl rfl) (by rw [D8.out.b.waits]; simp) V L8.out rfl).mono ?_
    rintro e wb ⟨rfl, hk, hb⟩
    have HK := Lib.hid hk
    have HB := Lib.hid hb
    clear hk hb
    by_cases hv : V = 0
    · subst hv
      obtain rfl := hV0 rfl
      go_wp2_with fail
      go_ret
      exact ⟨rfl, HK.out.bel⟩
    · have hv1 : ((V : Int) == 0) = false := by rw [beq_eq_false_iff_ne]; omega
      obtain ⟨m9, e9, d9, s9⟩ := T8.out.lost D8.out (.inl rfl) (by omega) (p := 1) (by omega)
      obtain ⟨ma, ea, da, ta⟩ := s9.heal d9 (.inl rfl)
      obtain ⟨mb, eb, db, sb⟩ := ta.lost da (.inl rfl) (by omega) (p := 0) (by omega)
      have P9 := Lib.hid e9
      have D9 := Lib.hid d9
      have L9 := Lib.hid (d9.ld (.inl rfl) s9.ldd)
      have PA := Lib.hid ea
      have DA := Lib.hid da
      have PB := Lib.hid eb
      have DB := Lib.hid db
      have LB := Lib.hid (db.ld (.inl rfl) sb.ldd)
      clear e9 d9 s9 ea da ta eb db sb hV0 hv
      go_wp2_with fail
      refine (first1 1 (by omega) HK.out HL.out).mono ?_
      rintro e wc ⟨rfl, hx, hk⟩
      have HK := Lib.hid hk
      have HB := Lib.hid (HB.out.ext hx)
      clear hx hk
      go_wp2_with fail
      refine (lose_step HK.out _ P9.out AB NB B HB.out HO.out).mono ?_
      rintro e wd ⟨rfl, Fd, hk, hb, ho⟩
      have HK := Lib.hid hk
      have HB := Lib.hid hb
      have HO := Lib.hid ho
      clear hk hb ho
      go_wp2_with fail
      refine (loads_yes' HK.out HL.out 1 _ AB NB NB B HB.out HO.out D9.out.b.size (.inl rfl) (by rw [D9.out.b.waits]; simp) V L9.out rfl).mono ?_
      rintro e we ⟨rfl, hk, hb⟩
      have HK := Lib.hid hk
      have HB := Lib.hid hb
      clear hk hb
      go_wp2_with fail
      refine (heal_step HK.out HL.out 1 (known0 D9.out.b.size (.inl rfl)) (by rw [D9.out.b.waits]; simp) PA.out AB NB B HB.out HO.out).mono ?_
      rintro e wg ⟨rfl, Fg, hk, hb, ho⟩
      have HK := Lib.hid hk
      have HB := Lib.hid hb
      have HO := Lib.hid ho
      clear hk hb ho
      go_wp2_with fail
      refine (first1 0 (by omega) HK.out HL.out).mono ?_
      rintro e wh ⟨rfl, hx, hk⟩
      have HK := Lib.hid hk
      have HB := Lib.hid (HB.out.ext hx)
      clear hx hk
      go_wp2_with fail
      refine (lose_step HK.out _ PB.out AB NB B HB.out HO.out).mono ?_
      rintro e wi ⟨rfl, Fi, hk, hb, ho⟩
      have HK := Lib.hid hk
      have HB := Lib.hid hb
      have HO := Lib.hid ho
      clear hk hb ho
      go_wp2_with fail
      refine (loads_yes' HK.out HL.out 1 _ AB NB NB B HB.out HO.out DB.out.b.size (.inl rfl) (by rw [DB.out.b.waits]; simp) V LB.out rfl).mono ?_
      rintro e wj ⟨rfl, hk, hb⟩
      have HK := Lib.hid hk
      clear hk hb
      go_wp2_with fail
      go_ret
      exact ⟨rfl, HK.out.bel⟩

theorem cellHealed_law (A : Option Addr) (n c : Nat) (l : List Lst) (A2 : Option Addr) (n2 c2 : Nat) (body : List Nat) (p : Int) (kA : Option Addr) (kn kc : Nat) (kl : List Bool) (which : Bool) (w : World) (h1 : Lsts w w.heap.size A n c l) (h2 : Bs w w.heap.size A2 n2 c2 body) (hp : (Lit.int .u8 p).wf = true) (h3 : Vs w w.heap.size kA kn kc (kl.map .bool)) (hL : LaidF w) :
    Calls Tryd.prog 5 #[.slice A n c, .slice A2 n2 c2, .int .u8 p, .slice kA kn kc, .bool which] w fun e w' => e = .returned (.bool true) ∧ Ext w w' := by
  obtain ⟨p, rfl, _⟩ := u8_nat hp
  cases which with
  | false => exact healed_false A n c l A2 n2 c2 body p kA kn kc kl w h1 h2 h3 hL
  | true => exact healed_true A n c l A2 n2 c2 body p kA kn kc kl w h1 h2 h3 hL
end Go.Proofs.YtbflofkcfhihcaaDoor
