/-
  CellEither: behind a power that goes amid a Store, and any crash, what is loaded is what was loaded ahead of it, or what was stored, of the next version.
  A number brought below a bound, by way of 64 bits without a sign.
-/
import Derived.Test.YtbflofkcfhihcaaDoorQ03
import Derived.Test.YtbflofkcfhihcaaDoorQ17
import Derived.Test.YtbflofkcfhihcaaDoorQ30
namespace Go.Proofs.YtbflofkcfhihcaaDoor
open Go Go.RowKit

theorem CD.power_ {m : DM} (h : CD m (-1)) (k : Nat) : ∃ m', m.setPower (k : Int) = (0, m') ∧ CD m' (k : Int) ∧ ∀ t, m'.hold t = m.hold t := by
  have hok := DM.setPower_ok h.b.ok (k : Int)
  have e : m.setPower (k : Int) = (0, { m with power := (k : Int) }) := by
    unfold DM.setPower
    rw [if_neg (by rw [h.up]; simp), if_neg (by omega)]
  rw [e] at hok
  exact ⟨_, e, ⟨⟨hok, h.b.size, h.b.waits, h.b.down⟩, h.dead, rfl⟩, fun t => rfl⟩
theorem power_dk {w0 w : World} {d : Nat} {F : Nat → Prop} {m m' : DM} (h : DK w0 w d F m) (n E : Int) (hn : n ≤ 9223372036854775807) (hl : m.setPower n = (E, m')) : Calls Tryd.prog 15 #[.pointer (some ⟨d, 0, none⟩), .int .i64 n] w fun e w' => e = .returned (.int .i64 E) ∧ DK w0 w' d (grow F w w') m' := by
  have := power_pd h.disk n hn
  rw [hl] at this
  exact this.mono fun e w' hh => ⟨hh.1, h.step hh.2.1 hh.2.2⟩
theorem crash_dk {w0 w : World} {d : Nat} {F : Nat → Prop} {m : DM} (h : DK w0 w d F m) (kA : Option Addr) (kn kc : Nat) (kl : List Bool) (hk : Vs w0 w0.heap.size kA kn kc (kl.map .bool)) : Calls Tryd.prog 16 #[.pointer (some ⟨d, 0, none⟩), .slice kA kn kc] w fun e w' => e = .returned (.int .i64 (m.crash kl).1) ∧ DK w0 w' d (grow F w w') (m.crash kl).2 :=
  (crash_pd h.disk kA kn kc kl ((hk.below h.bel).more h.bel.size) (h.vs hk)).mono fun _ _ hh => ⟨hh.1, h.step hh.2.1 hh.2.2⟩
theorem start_dk {w0 w : World} {d : Nat} {F : Nat → Prop} {m : DM} (h : DK w0 w d F m) : Calls Tryd.prog 17 #[.pointer (some ⟨d, 0, none⟩)] w fun e w' => e = .returned (.int .i64 m.start.1) ∧ DK w0 w' d (grow F w w') m.start.2 :=
  (start_pd h.disk).mono fun _ _ hh => ⟨hh.1, h.step hh.2.1 hh.2.2⟩
theorem bodyAt_lastE {l : List Lst} {n : Nat} {a : Lst} (h : l[n]? = some a) : bodyAt l (n + 1) = a.l := by
  unfold bodyAt
  rw [if_neg (by omega), Nat.add_sub_cancel, List.getD_eq_getElem?_getD, h]
  rfl
theorem u8_nat {z : Int} (hz : (Lit.int .u8 z).wf = true) : ∃ k : Nat, z = (k : Int) ∧ k < 256 := by
  have h : (decide (IntKind.u8.min ≤ z) && decide (z ≤ IntKind.u8.max)) = true := hz
  rw [Bool.and_eq_true] at h
  have h1 := of_decide_eq_true h.1
  have h2 := of_decide_eq_true h.2
  have e1 : (IntKind.u8.min : Int) = 0 := by decide
  have e2 : (IntKind.u8.max : Int) = 255 := by decide
  rw [e1] at h1
  rw [e2] at h2
  exact ⟨z.toNat, by omega, by omega⟩

set_option maxRecDepth 100000 in
set_option maxHeartbeats 1600000 in
theorem either_false (A : Option Addr) (n c : Nat) (l : List Lst) (A2 : Option Addr) (n2 c2 : Nat) (body : List Nat) (p : Nat) (kA : Option Addr) (kn kc : Nat) (kl : List Bool) (w : World) (h1 : Lsts w w.heap.size A n c l) (h2 : Bs w w.heap.size A2 n2 c2 body) (h3 : Vs w w.heap.size kA kn kc (kl.map .bool)) (hL : LaidF w) :
    Calls Tryd.prog 4 #[.bool false, .slice A n c, .slice A2 n2 c2, .int .u8 (p : Int), .slice kA kn kc] w fun e w' => e = .returned (.bool true) ∧ Ext w w' := by
  have H1 := Lib.hid h1
  have H2 := Lib.hid h2
  have H3 := Lib.hid h3
  have HL := Lib.hid hL
  have hn0 := Nat.zero_le n
  have hq2 := Nat.zero_le n2
  have hq3 := Nat.zero_le kn
  obtain ⟨k, hk⟩ : ∃ k, p % 6 = k := ⟨_, rfl⟩
  have hk6 : k < 6 := by omega
  have hrm : ((p : Nat) : Int).tmod 6 = (k : Int) := by rw [Int.tmod_eq_emod_of_nonneg (by omega)]; omega
  have hwk : wrap64 (k : Int) = (k : Int) := IntWalk.wrap64_in _ (by omega)
  clear h1 h2 h3 hL hk
  go_enter Tryd.func4, Tryd.ntmps4
  go_wp2_with fail
  refine (cawake_any w w (Ext.refl w) HL.out).mono ?_
  rintro e w1 ⟨rfl, hx⟩
  have HX := Lib.hid hx
  clear hx
  go_wp2_with fail
  refine (great7_of A n c l (H1.out.below HX.out)).mono ?_
  rintro e w1' ⟨b, rfl, rfl, hg1⟩
  cases b with
  | true =>
    go_wp2_with fail
    go_ret
    exact ⟨rfl, HX.out⟩
  | false =>
    obtain ⟨hn20, hall1⟩ := hg1 rfl
    have HA1 := Lib.hid hall1
    clear hg1 hall1
    by_cases hb43 : 43 < n2
    · go_wp2_with fail
      go_ret
      exact ⟨rfl, HX.out⟩
    by_cases hk10 : 10 < kn
    · go_wp2_with fail
      go_ret
      exact ⟨rfl, HX.out⟩
    have HBL : Hid (body.length ≤ 43) := Lib.hid (by rw [H2.out.len]; omega)
    go_wp2_with fail
    refine (new_dk HX.out).mono ?_
    rintro e w2 ⟨d, F, rfl, hk⟩
    have HK := Lib.hid hk
    clear hk
    go_wp2_with fail
    refine (stored_of HK.out HL.out CD.new 1 (.inl rfl) (new_two (.inl rfl)) A n c l H1.out hn20 HA1.out).mono ?_
    rintro e w3 ⟨rfl, F3, m3, hk, hd3, ht3, _⟩
    have HK := Lib.hid hk
    obtain ⟨m4, e4, d4, o4⟩ := hd3.power_ k
    have ht4 := ht3.of_eq (m' := m4) (o4 _) (o4 _)
    have hpw := Two.power d4 (.inl rfl) ht4 (by omega) (c := 99) (by omega) HBL.out H2.out.rd.lt kl
    obtain ⟨E5, hE5⟩ : ∃ E5, (m4.store 0 1 99 body).1 = E5 := ⟨_, rfl⟩
    obtain ⟨m5, hm5⟩ : ∃ m5, (m4.store 0 1 99 body).2 = m5 := ⟨_, rfl⟩
    have hs5 : m4.store 0 1 99 body = (E5, m5) := by rw [← hE5, ← hm5]
    rw [show (((99 : Nat) : Int)) = 99 from rfl, hE5, hm5] at hpw
    have P4 := Lib.hid e4
    have D4 := Lib.hid d4
    have P5 := Lib.hid hs5
    have PW := Lib.hid hpw
    clear hk hd3 ht3 e4 d4 o4 ht4 hpw hE5 hm5 hs5
    go_wp2_with fail
    refine (power_dk HK.out (k : Int) 0 (by omega) P4.out).mono ?_
    rintro e w4 ⟨rfl, hk⟩
    have HK := Lib.hid hk
    clear hk
    by_cases hz : n = 0
    · subst hz
      by_cases hk4 : k < 4
      · obtain rfl : E5 = 5 := by have := PW.out.1; rwa [if_pos hk4] at this
        rcases PW.out.2.2.2.2.1 with ho | hnw
        · have HOLD := Lib.hid (PW.out.2.2.2.1.ld (.inl rfl) ho.ldd)
          clear ho
          go_wp2_with fail
          have hst := Store_dk HK.out HL.out 0 1 99 A2 n2 c2 body (HK.out.byIn H2.out) (HK.out.offB H2.out) (known0 D4.out.b.size (.inl rfl)) (by rw [D4.out.b.waits]; simp)
          rw [P5.out] at hst
          refine hst.mono ?_
          rintro e w5 ⟨rfl, hk⟩
          have HK := Lib.hid hk
          clear hk hst
          go_wp2_with fail
          have hcr := crash_dk HK.out kA kn kc kl H3.out
          rw [PW.out.2.1] at hcr
          refine hcr.mono ?_
          rintro e w6 ⟨rfl, hk⟩
          have HK := Lib.hid hk
          clear hk hcr
          go_wp2_with fail
          have hsr := start_dk HK.out
          rw [PW.out.2.2.1] at hsr
          refine hsr.mono ?_
          rintro e w7 ⟨rfl, hk⟩
          have HK := Lib.hid hk
          clear hk hsr
          go_wp2_with fail
          refine (loads_yes HK.out HL.out 1 _ none 0 0 _ (By.nil_ _) PW.out.2.2.2.1.b.size (.inl rfl) (by rw [PW.out.2.2.2.1.b.waits]; simp) _ HOLD.out (by omega)).mono ?_
          rintro e w8 ⟨rfl, hk⟩
          have HK := Lib.hid hk
          clear hk
          go_wp2_with fail
          go_ret
          exact ⟨rfl, HK.out.bel⟩
        · have HNEW := Lib.hid (PW.out.2.2.2.1.ld (.inl rfl) hnw.ldd)
          clear hnw
          go_wp2_with fail
          have hst := Store_dk HK.out HL.out 0 1 99 A2 n2 c2 body (HK.out.byIn H2.out) (HK.out.offB H2.out) (known0 D4.out.b.size (.inl rfl)) (by rw [D4.out.b.waits]; simp)
          rw [P5.out] at hst
          refine hst.mono ?_
          rintro e w5 ⟨rfl, hk⟩
          have HK := Lib.hid hk
          clear hk hst
          go_wp2_with fail
          have hcr := crash_dk HK.out kA kn kc kl H3.out
          rw [PW.out.2.1] at hcr
          refine hcr.mono ?_
          rintro e w6 ⟨rfl, hk⟩
          have HK := Lib.hid hk
          clear hk hcr
          go_wp2_with fail
          have hsr := start_dk HK.out
          rw [PW.out.2.2.1] at hsr
          refine hsr.mono ?_
          rintro e w7 ⟨rfl, hk⟩
          have HK := Lib.hid hk
          clear hk hsr
          go_wp2_with fail
          refine (loads_no HK.out HL.out 1 _ none 0 0 PW.out.2.2.2.1.b.size (.inl rfl) (by rw [PW.out.2.2.2.1.b.waits]; simp) _ body HNEW.out (by omega)).mono ?_
          rintro e w8 ⟨rfl, hk⟩
          have HK := Lib.hid hk
          clear hk
          go_wp2_with fail
          refine (loads_yes HK.out HL.out 1 _ A2 n2 c2 body (HK.out.byIn H2.out) PW.out.2.2.2.1.b.size (.inl rfl) (by rw [PW.out.2.2.2.1.b.waits]; simp) _ HNEW.out (by omega)).mono ?_
          rintro e w9 ⟨rfl, hk⟩
          have HK := Lib.hid hk
          clear hk
          go_wp2_with fail
          go_ret
          exact ⟨rfl, HK.out.bel⟩
      · obtain rfl : E5 = 0 := by have := PW.out.1; rwa [if_neg hk4] at this
        go_wp2_with fail
        have hst := Store_dk HK.out HL.out 0 1 99 A2 n2 c2 body (HK.out.byIn H2.out) (HK.out.offB H2.out) (known0 D4.out.b.size (.inl rfl)) (by rw [D4.out.b.waits]; simp)
        rw [P5.out] at hst
        refine hst.mono ?_
        rintro e w5 ⟨rfl, hk⟩
        have HK := Lib.hid hk
        clear hk hst
        go_wp2_with fail
        have hcr := crash_dk HK.out kA kn kc kl H3.out
        rw [PW.out.2.1] at hcr
        refine hcr.mono ?_
        rintro e w6 ⟨rfl, hk⟩
        have HK := Lib.hid hk
        clear hk hcr
        go_wp2_with fail
        have hsr := start_dk HK.out
        rw [PW.out.2.2.1] at hsr
        refine hsr.mono ?_
        rintro e w7 ⟨rfl, hk⟩
        have HK := Lib.hid hk
        clear hk hsr
        go_wp2_with fail
        refine (loads_yes HK.out HL.out 1 _ A2 n2 c2 body (HK.out.byIn H2.out) PW.out.2.2.2.1.b.size (.inl rfl) (by rw [PW.out.2.2.2.1.b.waits]; simp) _ (PW.out.2.2.2.1.ld (.inl rfl) (PW.out.2.2.2.2.2 (by omega)).ldd) (by omega)).mono ?_
        rintro e w8 ⟨rfl, hk⟩
        have HK := Lib.hid hk
        clear hk
        go_wp2_with fail
        go_ret
        exact ⟨rfl, HK.out.bel⟩
    · obtain ⟨q, rfl⟩ : ∃ q, n = q + 1 := ⟨n - 1, by omega⟩
      obtain ⟨gb, o, a, rfl, hgb, ha, hok, h0⟩ := H1.out.at_ (j := q) (by omega)
      have c0 := (Below.cell HK.out.bel (p := ⟨gb, o + q, none⟩) hgb).trans h0
      have HOK := Lib.hid hok
      have HBA := Lib.hid (bodyAt_lastE ha)
      clear h0 ha hok
      by_cases hk4 : k < 4
      · obtain rfl : E5 = 5 := by have := PW.out.1; rwa [if_pos hk4] at this
        rcases PW.out.2.2.2.2.1 with ho | hnw
        · have HOLD := Lib.hid (PW.out.2.2.2.1.ld (.inl rfl) ho.ldd)
          rw [HBA.out] at HOLD
          clear ho
          go_wp2_with fail
          have hst := Store_dk HK.out HL.out 0 1 99 A2 n2 c2 body (HK.out.byIn H2.out) (HK.out.offB H2.out) (known0 D4.out.b.size (.inl rfl)) (by rw [D4.out.b.waits]; simp)
          rw [P5.out] at hst
          refine hst.mono ?_
          rintro e w5 ⟨rfl, hk⟩
          have HK := Lib.hid hk
          clear hk hst c0
          go_wp2_with fail
          have hcr := crash_dk HK.out kA kn kc kl H3.out
          rw [PW.out.2.1] at hcr
          refine hcr.mono ?_
          rintro e w6 ⟨rfl, hk⟩
          have HK := Lib.hid hk
          clear hk hcr
          go_wp2_with fail
          have hsr := start_dk HK.out
          rw [PW.out.2.2.1] at hsr
          refine hsr.mono ?_
          rintro e w7 ⟨rfl, hk⟩
          have HK := Lib.hid hk
          clear hk hsr
          go_wp2_with fail
          refine (loads_yes HK.out HL.out 1 _ a.A a.n a.c _ (HK.out.byIn HOK.out) PW.out.2.2.2.1.b.size (.inl rfl) (by rw [PW.out.2.2.2.1.b.waits]; simp) _ HOLD.out (by omega)).mono ?_
          rintro e w8 ⟨rfl, hk⟩
          have HK := Lib.hid hk
          clear hk
          go_wp2_with fail
          go_ret
          exact ⟨rfl, HK.out.bel⟩
        · have HNEW := Lib.hid (PW.out.2.2.2.1.ld (.inl rfl) hnw.ldd)
          clear hnw
          go_wp2_with fail
          have hst := Store_dk HK.out HL.out 0 1 99 A2 n2 c2 body (HK.out.byIn H2.out) (HK.out.offB H2.out) (known0 D4.out.b.size (.inl rfl)) (by rw [D4.out.b.waits]; simp)
          rw [P5.out] at hst
          refine hst.mono ?_
          rintro e w5 ⟨rfl, hk⟩
          have HK := Lib.hid hk
          clear hk hst c0
          go_wp2_with fail
          have hcr := crash_dk HK.out kA kn kc kl H3.out
          rw [PW.out.2.1] at hcr
          refine hcr.mono ?_
          rintro e w6 ⟨rfl, hk⟩
          have HK := Lib.hid hk
          clear hk hcr
          go_wp2_with fail
          have hsr := start_dk HK.out
          rw [PW.out.2.2.1] at hsr
          refine hsr.mono ?_
          rintro e w7 ⟨rfl, hk⟩
          have HK := Lib.hid hk
          clear hk hsr
          go_wp2_with fail
          refine (loads_no HK.out HL.out 1 _ a.A a.n a.c PW.out.2.2.2.1.b.size (.inl rfl) (by rw [PW.out.2.2.2.1.b.waits]; simp) _ body HNEW.out (by omega)).mono ?_
          rintro e w8 ⟨rfl, hk⟩
          have HK := Lib.hid hk
          clear hk
          go_wp2_with fail
          refine (loads_yes HK.out HL.out 1 _ A2 n2 c2 body (HK.out.byIn H2.out) PW.out.2.2.2.1.b.size (.inl rfl) (by rw [PW.out.2.2.2.1.b.waits]; simp) _ HNEW.out (by omega)).mono ?_
          rintro e w9 ⟨rfl, hk⟩
          have HK := Lib.hid hk
          clear hk
          go_wp2_with fail
          go_ret
          exact ⟨rfl, HK.out.bel⟩
      · obtain rfl : E5 = 0 := by have := PW.out.1; rwa [if_neg hk4] at this
        go_wp2_with fail
        have hst := Store_dk HK.out HL.out 0 1 99 A2 n2 c2 body (HK.out.byIn H2.out) (HK.out.offB H2.out) (known0 D4.out.b.size (.inl rfl)) (by rw [D4.out.b.waits]; simp)
        rw [P5.out] at hst
        refine hst.mono ?_
        rintro e w5 ⟨rfl, hk⟩
        have HK := Lib.hid hk
        clear hk hst c0
        go_wp2_with fail
        have hcr := crash_dk HK.out kA kn kc kl H3.out
        rw [PW.out.2.1] at hcr
        refine hcr.mono ?_
        rintro e w6 ⟨rfl, hk⟩
        have HK := Lib.hid hk
        clear hk hcr
        go_wp2_with fail
        have hsr := start_dk HK.out
        rw [PW.out.2.2.1] at hsr
        refine hsr.mono ?_
        rintro e w7 ⟨rfl, hk⟩
        have HK := Lib.hid hk
        clear hk hsr
        go_wp2_with fail
        refine (loads_yes HK.out HL.out 1 _ A2 n2 c2 body (HK.out.byIn H2.out) PW.out.2.2.2.1.b.size (.inl rfl) (by rw [PW.out.2.2.2.1.b.waits]; simp) _ (PW.out.2.2.2.1.ld (.inl rfl) (PW.out.2.2.2.2.2 (by omega)).ldd) (by omega)).mono ?_
        rintro e w8 ⟨rfl, hk⟩
        have HK := Lib.hid hk
        clear hk
        go_wp2_with fail
        go_ret
        exact ⟨rfl, HK.out.bel⟩
set_option maxRecDepth 100000 in
set_option maxHeartbeats 1600000 in
theorem either_true (A : Option Addr) (n c : Nat) (l : List Lst) (A2 : Option Addr) (n2 c2 : Nat) (body : List Nat) (p : Nat) (kA : Option Addr) (kn kc : Nat) (kl : List Bool) (w : World) (h1 : Lsts w w.heap.size A n c l) (h2 : Bs w w.heap.size A2 n2 c2 body) (h3 : Vs w w.heap.size kA kn kc (kl.map .bool)) (hL : LaidF w) :
    Calls Tryd.prog 4 #[.bool true, .slice A n c, .slice A2 n2 c2, .int .u8 (p : Int), .slice kA kn kc] w fun e w' => e = .returned (.bool true) ∧ Ext w w' := by
  have H1 := Lib.hid h1
  have H2 := Lib.hid h2
  have H3 := Lib.hid h3
  have HL := Lib.hid hL
  have hn0 := Nat.zero_le n
  have hq2 := Nat.zero_le n2
  have hq3 := Nat.zero_le kn
  obtain ⟨k, hk⟩ : ∃ k, p % 6 = k := ⟨_, rfl⟩
  have hk6 : k < 6 := by omega
  have hrm : ((p : Nat) : Int).tmod 6 = (k : Int) := by rw [Int.tmod_eq_emod_of_nonneg (by omega)]; omega
  have hwk : wrap64 (k : Int) = (k : Int) := IntWalk.wrap64_in _ (by omega)
  clear h1 h2 h3 hL hk
  go_enter Tryd.func4, Tryd.ntmps4
  go_wp2_with fail
  refine (cawake_any w w (Ext.refl w) HL.out).mono ?_
  rintro e w1 ⟨rfl, hx⟩
  have HX := Lib.hid hx
  clear hx
  go_wp2_with fail
  refine (great7_of A n c l (H1.out.below HX.out)).mono ?_
  rintro e w1' ⟨b, rfl, rfl, hg1⟩
  cases b with
  | true =>
    go_wp2_with fail
    go_ret
    exact ⟨rfl, HX.out⟩
  | false =>
    obtain ⟨hn20, hall1⟩ := hg1 rfl
    have HA1 := Lib.hid hall1
    clear hg1 hall1
    by_cases hb43 : 43 < n2
    · go_wp2_with fail
      go_ret
      exact ⟨rfl, HX.out⟩
    by_cases hk10 : 10 < kn
    · go_wp2_with fail
      go_ret
      exact ⟨rfl, HX.out⟩
    have HBL : Hid (body.length ≤ 43) := Lib.hid (by rw [H2.out.len]; omega)
    go_wp2_with fail
    refine (new_dk HX.out).mono ?_
    rintro e w2 ⟨d, F, rfl, hk⟩
    have HK := Lib.hid hk
    clear hk
    go_wp2_with fail
    refine (stored_of HK.out HL.out CD.new 2 (.inr rfl) (new_two (.inr rfl)) A n c l H1.out hn20 HA1.out).mono ?_
    rintro e w3 ⟨rfl, F3, m3, hk, hd3, ht3, _⟩
    have HK := Lib.hid hk
    obtain ⟨m4, e4, d4, o4⟩ := hd3.power_ k
    have ht4 := ht3.of_eq (m' := m4) (o4 _) (o4 _)
    have hpw := Two.power d4 (.inr rfl) ht4 (by omega) (c := 99) (by omega) HBL.out H2.out.rd.lt kl
    obtain ⟨E5, hE5⟩ : ∃ E5, (m4.store 0 2 99 body).1 = E5 := ⟨_, rfl⟩
    obtain ⟨m5, hm5⟩ : ∃ m5, (m4.store 0 2 99 body).2 = m5 := ⟨_, rfl⟩
    have hs5 : m4.store 0 2 99 body = (E5, m5) := by rw [← hE5, ← hm5]
    rw [show (((99 : Nat) : Int)) = 99 from rfl, hE5, hm5] at hpw
    have P4 := Lib.hid e4
    have D4 := Lib.hid d4
    have P5 := Lib.hid hs5
    have PW := Lib.hid hpw
    clear hk hd3 ht3 e4 d4 o4 ht4 hpw hE5 hm5 hs5
    go_wp2_with fail
    refine (power_dk HK.out (k : Int) 0 (by omega) P4.out).mono ?_
    rintro e w4 ⟨rfl, hk⟩
    have HK := Lib.hid hk
    clear hk
    by_cases hz : n = 0
    · subst hz
      by_cases hk4 : k < 4
      · obtain rfl : E5 = 5 := by have := PW.out.1; rwa [if_pos hk4] at this
        rcases PW.out.2.2.2.2.1 with ho | hnw
        · have HOLD := Lib.hid (PW.out.2.2.2.1.ld (.inr rfl) ho.ldd)
          clear ho
          go_wp2_with fail
          have hst := Store_dk HK.out HL.out 0 2 99 A2 n2 c2 body (HK.out.byIn H2.out) (HK.out.offB H2.out) (known0 D4.out.b.size (.inr rfl)) (by rw [D4.out.b.waits]; simp)
          rw [P5.out] at hst
          refine hst.mono ?_
          rintro e w5 ⟨rfl, hk⟩
          have HK := Lib.hid hk
          clear hk hst
          go_wp2_with fail
          have hcr := crash_dk HK.out kA kn kc kl H3.out
          rw [PW.out.2.1] at hcr
          refine hcr.mono ?_
          rintro e w6 ⟨rfl, hk⟩
          have HK := Lib.hid hk
          clear hk hcr
          go_wp2_with fail
          have hsr := start_dk HK.out
          rw [PW.out.2.2.1] at hsr
          refine hsr.mono ?_
          rintro e w7 ⟨rfl, hk⟩
          have HK := Lib.hid hk
          clear hk hsr
          go_wp2_with fail
          refine (loads_yes HK.out HL.out 2 _ none 0 0 _ (By.nil_ _) PW.out.2.2.2.1.b.size (.inr rfl) (by rw [PW.out.2.2.2.1.b.waits]; simp) _ HOLD.out (by omega)).mono ?_
          rintro e w8 ⟨rfl, hk⟩
          have HK := Lib.hid hk
          clear hk
          go_wp2_with fail
          go_ret
          exact ⟨rfl, HK.out.bel⟩
        · have HNEW := Lib.hid (PW.out.2.2.2.1.ld (.inr rfl) hnw.ldd)
          clear hnw
          go_wp2_with fail
          have hst := Store_dk HK.out HL.out 0 2 99 A2 n2 c2 body (HK.out.byIn H2.out) (HK.out.offB H2.out) (known0 D4.out.b.size (.inr rfl)) (by rw [D4.out.b.waits]; simp)
          rw [P5.out] at hst
          refine hst.mono ?_
          rintro e w5 ⟨rfl, hk⟩
          have HK := Lib.hid hk
          clear hk hst
          go_wp2_with fail
          have hcr := crash_dk HK.out kA kn kc kl H3.out
          rw [PW.out.2.1] at hcr
          refine hcr.mono ?_
          rintro e w6 ⟨rfl, hk⟩
          have HK := Lib.hid hk
          clear hk hcr
          go_wp2_with fail
          have hsr := start_dk HK.out
          rw [PW.out.2.2.1] at hsr
          refine hsr.mono ?_
          rintro e w7 ⟨rfl, hk⟩
          have HK := Lib.hid hk
          clear hk hsr
          go_wp2_with fail
          refine (loads_no HK.out HL.out 2 _ none 0 0 PW.out.2.2.2.1.b.size (.inr rfl) (by rw [PW.out.2.2.2.1.b.waits]; simp) _ body HNEW.out (by omega)).mono ?_
          rintro e w8 ⟨rfl, hk⟩
          have HK := Lib.hid hk
          clear hk
          go_wp2_with fail
          refine (loads_yes HK.out HL.out 2 _ A2 n2 c2 body (HK.out.byIn H2.out) PW.out.2.2.2.1.b.size (.inr rfl) (by rw [PW.out.2.2.2.1.b.waits]; simp) _ HNEW.out (by omega)).mono ?_
          rintro e w9 ⟨rfl, hk⟩
          have HK := Lib.hid hk
          clear hk
          go_wp2_with fail
          go_ret
          exact ⟨rfl, HK.out.bel⟩
      · obtain rfl : E5 = 0 := by have := PW.out.1; rwa [if_neg hk4] at this
        go_wp2_with fail
        have hst := Store_dk HK.out HL.out 0 2 99 A2 n2 c2 body (HK.out.byIn H2.out) (HK.out.offB H2.out) (known0 D4.out.b.size (.inr rfl)) (by rw [D4.out.b.waits]; simp)
        rw [P5.out] at hst
        refine hst.mono ?_
        rintro e w5 ⟨rfl, hk⟩
        have HK := Lib.hid hk
        clear hk hst
        go_wp2_with fail
        have hcr := crash_dk HK.out kA kn kc kl H3.out
        rw [PW.out.2.1] at hcr
        refine hcr.mono ?_
        rintro e w6 ⟨rfl, hk⟩
        have HK := Lib.hid hk
        clear hk hcr
        go_wp2_with fail
        have hsr := start_dk HK.out
        rw [PW.out.2.2.1] at hsr
        refine hsr.mono ?_
        rintro e w7 ⟨rfl, hk⟩
        have HK := Lib.hid hk
        clear hk hsr
        go_wp2_with fail
        refine (loads_yes HK.out HL.out 2 _ A2 n2 c2 body (HK.out.byIn H2.out) PW.out.2.2.2.1.b.size (.inr rfl) (by rw [PW.out.2.2.2.1.b.waits]; simp) _ (PW.out.2.2.2.1.ld (.inr rfl) (PW.out.2.2.2.2.2 (by omega)).ldd) (by omega)).mono ?_
        rintro e w8 ⟨rfl, hk⟩
        have HK := Lib.hid hk
        clear hk
        go_wp2_with fail
        go_ret
        exact ⟨rfl, HK.out.bel⟩
    · obtain ⟨q, rfl⟩ : ∃ q, n = q + 1 := ⟨n - 1, by omega⟩
      obtain ⟨gb, o, a, rfl, hgb, ha, hok, h0⟩ := H1.out.at_ (j := q) (by omega)
      have c0 := (Below.cell HK.out.bel (p := ⟨gb, o + q, none⟩) hgb).trans h0
      have HOK := Lib.hid hok
      have HBA := Lib.hid (bodyAt_lastE ha)
      clear h0 ha hok
      by_cases hk4 : k < 4
      · obtain rfl : E5 = 5 := by have := PW.out.1; rwa [if_pos hk4] at this
        rcases PW.out.2.2.2.2.1 with ho | hnw
        · have HOLD := Lib.hid (PW.out.2.2.2.1.ld (.inr rfl) ho.ldd)
          rw [HBA.out] at HOLD
          clear ho
          go_wp2_with fail
          have hst := Store_dk HK.out HL.out 0 2 99 A2 n2 c2 body (HK.out.byIn H2.out) (HK.out.offB H2.out) (known0 D4.out.b.size (.inr rfl)) (by rw [D4.out.b.waits]; simp)
          rw [P5.out] at hst
          refine hst.mono ?_
          rintro e w5 ⟨rfl, hk⟩
          have HK := Lib.hid hk
          clear hk hst c0
          go_wp2_with fail
          have hcr := crash_dk HK.out kA kn kc kl H3.out
          rw [PW.out.2.1] at hcr
          refine hcr.mono ?_
          rintro e w6 ⟨rfl, hk⟩
          have HK := Lib.hid hk
          clear hk hcr
          go_wp2_with fail
          have hsr := start_dk HK.out
          rw [PW.out.2.2.1] at hsr
          refine hsr.mono ?_
          rintro e w7 ⟨rfl, hk⟩
          have HK := Lib.hid hk
          clear hk hsr
          go_wp2_with fail
          refine (loads_yes HK.out HL.out 2 _ a.A a.n a.c _ (HK.out.byIn HOK.out) PW.out.2.2.2.1.b.size (.inr rfl) (by rw [PW.out.2.2.2.1.b.waits]; simp) _ HOLD.out (by omega)).mono ?_
          rintro e w8 ⟨rfl, hk⟩
          have HK := Lib.hid hk
          clear hk
          go_wp2_with fail
          go_ret
          exact ⟨rfl, HK.out.bel⟩
        · have HNEW := Lib.hid (PW.out.2.2.2.1.ld (.inr rfl) hnw.ldd)
          clear hnw
          go_wp2_with fail
          have hst := Store_dk HK.out HL.out 0 2 99 A2 n2 c2 body (HK.out.byIn H2.out) (HK.out.offB H2.out) (known0 D4.out.b.size (.inr rfl)) (by rw [D4.out.b.waits]; simp)
          rw [P5.out] at hst
          refine hst.mono ?_
          rintro e w5 ⟨rfl, hk⟩
          have HK := Lib.hid hk
          clear hk hst c0
          go_wp2_with fail
          have hcr := crash_dk HK.out kA kn kc kl H3.out
          rw [PW.out.2.1] at hcr
          refine hcr.mono ?_
          rintro e w6 ⟨rfl, hk⟩
          have HK := Lib.hid hk
          clear hk hcr
          go_wp2_with fail
          have hsr := start_dk HK.out
          rw [PW.out.2.2.1] at hsr
          refine hsr.mono ?_
          rintro e w7 ⟨rfl, hk⟩
          have HK := Lib.hid hk
          clear hk hsr
          go_wp2_with fail
          refine (loads_no HK.out HL.out 2 _ a.A a.n a.c PW.out.2.2.2.1.b.size (.inr rfl) (by rw [PW.out.2.2.2.1.b.waits]; simp) _ body HNEW.out (by omega)).mono ?_
          rintro e w8 ⟨rfl, hk⟩
          have HK := Lib.hid hk
          clear hk
          go_wp2_with fail
          refine (loads_yes HK.out HL.out 2 _ A2 n2 c2 body (HK.out.byIn H2.out) PW.out.2.2.2.1.b.size (.inr rfl) (by rw [PW.out.2.2.2.1.b.waits]; simp) _ HNEW.out (by omega)).mono ?_
          rintro e w9 ⟨rfl, hk⟩
          have HK := Lib.hid hk
          clear hk
          go_wp2_with fail
          go_ret
          exact ⟨rfl, HK.out.bel⟩
      · obtain rfl : E5 = 0 := by have := PW.out.1; rwa [if_neg hk4] at this
        go_wp2_with fail
        have hst := Store_dk HK.out HL.out 0 2 99 A2 n2 c2 body (HK.out.byIn H2.out) (HK.out.offB H2.out) (known0 D4.out.b.size (.inr rfl)) (by rw [D4.out.b.waits]; simp)
        rw [P5.out] at hst
        refine hst.mono ?_
        rintro e w5 ⟨rfl, hk⟩
        have HK := Lib.hid hk
        clear hk hst c0
        go_wp2_with fail
        have hcr := crash_dk HK.out kA kn kc kl H3.out
        rw [PW.out.2.1] at hcr
        refine hcr.mono ?_
        rintro e w6 ⟨rfl, hk⟩
        have HK := Lib.hid hk
        clear hk hcr
        go_wp2_with fail
        have hsr := start_dk HK.out
        rw [PW.out.2.2.1] at hsr
        refine hsr.mono ?_
        rintro e w7 ⟨rfl, hk⟩
        have HK := Lib.hid hk
        clear hk hsr
        go_wp2_with fail
        refine (loads_yes HK.out HL.out 2 _ A2 n2 c2 body (HK.out.byIn H2.out) PW.out.2.2.2.1.b.size (.inr rfl) (by rw [PW.out.2.2.2.1.b.waits]; simp) _ (PW.out.2.2.2.1.ld (.inr rfl) (PW.out.2.2.2.2.2 (by omega)).ldd) (by omega)).mono ?_
        rintro e w8 ⟨rfl, hk⟩
        have HK := Lib.hid hk
        clear hk
        go_wp2_with fail
        go_ret
        exact ⟨rfl, HK.out.bel⟩
theorem cellEither_law (two : Bool) (A : Option Addr) (n c : Nat) (l : List Lst) (A2 : Option Addr) (n2 c2 : Nat) (body : List Nat) (p : Int) (kA : Option Addr) (kn kc : Nat) (kl : List Bool) (w : World) (h1 : Lsts w w.heap.size A n c l) (h2 : Bs w w.heap.size A2 n2 c2 body) (hp : (Lit.int .u8 p).wf = true) (h3 : Vs w w.heap.size kA kn kc (kl.map .bool)) (hL : LaidF w) :
    Calls Tryd.prog 4 #[.bool two, .slice A n c, .slice A2 n2 c2, .int .u8 p, .slice kA kn kc] w fun e w' => e = .returned (.bool true) ∧ Ext w w' := by
  obtain ⟨p, rfl, _⟩ := u8_nat hp
  cases two with
  | false => exact either_false A n c l A2 n2 c2 body p kA kn kc kl w h1 h2 h3 hL
  | true => exact either_true A n c l A2 n2 c2 body p kA kn kc kl w h1 h2 h3 hL
end Go.Proofs.YtbflofkcfhihcaaDoor

namespace Go.Proofs.YtbflofkcfhihcaaDoor
set_option maxRecDepth 100000
open Go Go.RowKit
theorem wrap_mod (z : Int) (N : Nat) (h0 : 0 < N) (hN : N ≤ 1000) : ∃ q : Nat, q < N ∧ wrap64 ((IntKind.u64.wrap z).tmod (N : Int)) = (q : Int) := by
  have h1 : 0 ≤ IntKind.u64.wrap z := by rw [IntKind.wrap_u64]; omega
  have h2 := Int.emod_nonneg (IntKind.u64.wrap z) (show (N : Int) ≠ 0 by omega)
  have h3 := Int.emod_lt_of_pos (IntKind.u64.wrap z) (show (0 : Int) < N by omega)
  refine ⟨((IntKind.u64.wrap z) % N).toNat, by omega, ?_⟩
  rw [Int.tmod_eq_emod_of_nonneg h1, IntWalk.wrap64_in _ (by omega)]
  omega
end Go.Proofs.YtbflofkcfhihcaaDoor
