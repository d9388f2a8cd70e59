/-
  The contract of the statements' tells: what the program's disk tells, what the document's tells, and what of it is overwritten.
-/
import Derived.Test.YtldgamgdbneneaaRSame
import Derived.Test.YtldgamgdbneneaaPat
namespace Go.Proofs.Ytldgamgdbneneaa
open Go Go.RowKit

/-- A byte of told bytes is stored into. -/
theorem New.put {B : Nat} {w : World} {A : Option Addr} {n : Nat} {l : List Nat} (h : New B w A n l) {k : Nat} (hk : k < n) : ∃ g x : Nat, A = some ⟨g, 0, none⟩ ∧ B ≤ g ∧ x < 256 ∧ w.cell? ⟨g, k, none⟩ = some (.int .u8 (x : Int)) ∧ w.frozen? ⟨g, k, none⟩ = false ∧ g < w.heap.size ∧
    ∀ y : Nat, y < 256 → New B (w.setCell ⟨g, k, none⟩ (.int .u8 (y : Int))) A n (l.set k y) := by
  rcases h.at_ with ⟨h0, _⟩ | ⟨g, t, e, hB, hg⟩
  · omega
  have hkl : k < l.length := by rw [h.len]; exact hk
  refine ⟨g, l[k], e, hB, h.lt _ (List.getElem_mem hkl), ?_, frozen_of_row w g k _ _ hg, (Array.getElem?_eq_some_iff.1 hg).1, fun y hy => ⟨by rw [List.length_set]; exact h.len, mem_set_of h.lt hy, .inr ⟨g, t, e, hB, row_set k hg _ ?_⟩, h.le⟩⟩
  · rw [cell_of_row w g k _ _ _ hg]
    exact vb_at (List.getElem?_eq_getElem hkl)
  · rw [List.setIfInBounds_toArray, vb_set]

/-- Three told rows, each in a block of its own. -/
structure Ttl (w wr : World) (A : Option Addr) (na : Nat) (X : Option Addr) (nx : Nat) (P : Option Addr) (np : Nat) (lp : List Nat) : Prop where
  bel : Ext w wr
  a : ∃ l, New w.heap.size wr A na l
  x : ∃ l, New w.heap.size wr X nx l
  p : New w.heap.size wr P np lp
  ax : ∀ q r, A = some q → X = some r → q.block ≠ r.block
  ap : ∀ q r, A = some q → P = some r → q.block ≠ r.block
  xp : ∀ q r, X = some q → P = some r → q.block ≠ r.block
theorem new_apart {B B' : Nat} {w w1 : World} {A A' : Option Addr} {n n' : Nat} {l l' : List Nat} (h : New B w A n l) (h' : New B' w1 A' n' l') (hB : w.heap.size ≤ B') : ∀ q r, A = some q → A' = some r → q.block ≠ r.block := by
  intro q r hq hr
  rcases h.at_ with ⟨_, h0⟩ | ⟨g, t, e, _, hg⟩
  · rw [h0] at hq; cases hq
  rcases h'.at_ with ⟨_, h0⟩ | ⟨g', t', e', hB', _⟩
  · rw [h0] at hr; cases hr
  rw [e] at hq
  rw [e'] at hr
  cases hq
  cases hr
  have := (Array.getElem?_eq_some_iff.1 hg).1
  show g ≠ g'
  omega
section
variable {w wr : World} {A X P : Option Addr} {na nx np : Nat} {lp : List Nat}
theorem Ttl.ext (h : Ttl w wr A na X nx P np lp) {w' : World} (k : Ext wr w') : Ttl w w' A na X nx P np lp :=
  ⟨h.bel.trans k, h.a.imp fun _ h => h.ext k, h.x.imp fun _ h => h.ext k, h.p.ext k, h.ax, h.ap, h.xp⟩
theorem Ttl.putA (h : Ttl w wr A na X nx P np lp) {k : Nat} (hk : k < na) : ∃ g x : Nat, A = some ⟨g, 0, none⟩ ∧ x < 256 ∧ wr.cell? ⟨g, k, none⟩ = some (.int .u8 (x : Int)) ∧ wr.frozen? ⟨g, k, none⟩ = false ∧ g < wr.heap.size ∧
    ∀ y : Nat, y < 256 → Ttl w (wr.setCell ⟨g, k, none⟩ (.int .u8 (y : Int))) A na X nx P np lp := by
  obtain ⟨l, hl⟩ := h.a
  obtain ⟨g, x, e, hB, hx, h1, h2, h3, h4⟩ := hl.put hk
  refine ⟨g, x, e, hx, h1, h2, h3, fun y hy => ?_⟩
  have hm := mod_one wr g k (.int .u8 (y : Int))
  exact ⟨Below.mod h.bel hm h.bel.size (fun i e => by subst e; exact hB), ⟨_, h4 y hy⟩, h.x.imp fun _ hx => hx.mod hm fun p hp e2 => h.ax _ _ e hp e2.symm, h.p.mod hm fun p hp e2 => h.ap _ _ e hp e2.symm, h.ax, h.ap, h.xp⟩
theorem Ttl.putX (h : Ttl w wr A na X nx P np lp) {k : Nat} (hk : k < nx) : ∃ g x : Nat, X = some ⟨g, 0, none⟩ ∧ x < 256 ∧ wr.cell? ⟨g, k, none⟩ = some (.int .u8 (x : Int)) ∧ wr.frozen? ⟨g, k, none⟩ = false ∧ g < wr.heap.size ∧
    ∀ y : Nat, y < 256 → Ttl w (wr.setCell ⟨g, k, none⟩ (.int .u8 (y : Int))) A na X nx P np lp := by
  obtain ⟨l, hl⟩ := h.x
  obtain ⟨g, x, e, hB, hx, h1, h2, h3, h4⟩ := hl.put hk
  refine ⟨g, x, e, hx, h1, h2, h3, fun y hy => ?_⟩
  have hm := mod_one wr g k (.int .u8 (y : Int))
  exact ⟨Below.mod h.bel hm h.bel.size (fun i e => by subst e; exact hB), h.a.imp fun _ hx => hx.mod hm fun p hp e2 => h.ax _ _ hp e e2, ⟨_, h4 y hy⟩, h.p.mod hm fun p hp e2 => h.xp _ _ e hp e2.symm, h.ax, h.ap, h.xp⟩
/-- The last of them, behind the comparison. -/
structure Tlp (w wr : World) (P : Option Addr) (np : Nat) : Prop where
  bel : Ext w wr
  p : ∃ l, New w.heap.size wr P np l
theorem Tlp.put (h : Tlp w wr P np) {k : Nat} (hk : k < np) : ∃ g x : Nat, P = some ⟨g, 0, none⟩ ∧ x < 256 ∧ wr.cell? ⟨g, k, none⟩ = some (.int .u8 (x : Int)) ∧ wr.frozen? ⟨g, k, none⟩ = false ∧ g < wr.heap.size ∧
    ∀ y : Nat, y < 256 → Tlp w (wr.setCell ⟨g, k, none⟩ (.int .u8 (y : Int))) P np := by
  obtain ⟨l, hl⟩ := h.p
  obtain ⟨g, x, e, hB, hx, h1, h2, h3, h4⟩ := hl.put hk
  refine ⟨g, x, e, hx, h1, h2, h3, fun y hy => ?_⟩
  exact ⟨Below.mod h.bel (mod_one wr g k (.int .u8 (y : Int))) h.bel.size (fun i e => by subst e; exact hB), ⟨_, h4 y hy⟩⟩
end
theorem next_u8 (x : Nat) : ∃ y : Nat, IntKind.u8.wrap ((x : Int) + 1) = (y : Int) ∧ y < 256 := ⟨(x + 1) % 256, by rw [IntKind.wrap_u8]; omega, by omega⟩
/-- What tells compares. -/
theorem told_cases (m : DM) (s : Int) : (m.has s = false ∧ m.at_ s = ([], false, 2) ∧ m.means s = ([], 2)) ∨ ∃ j : Nat, s = (j : Int) ∧ j < m.size ∧ (m.at_ s).2.2 = 0 ∧ m.means s = (m.meant.getD j [], 0) := by
  by_cases hs : m.has s = false
  · exact .inl ⟨hs, by unfold DM.at_; rw [if_pos hs], by unfold DM.means; rw [if_pos hs]⟩
  · have hs' : m.has s = true := by simpa using hs
    obtain ⟨s0, s1⟩ := DM.has_iff.1 hs'
    obtain ⟨j, rfl⟩ := Int.eq_ofNat_of_zero_le s0
    refine .inr ⟨j, rfl, by omega, ?_, ?_⟩
    · unfold DM.at_
      rw [if_neg hs]
      split <;> rfl
    · unfold DM.means
      rw [if_neg hs, Int.toNat_natCast]
--WALK
set_option maxRecDepth 100000 in
set_option maxHeartbeats 6400000 in
theorem tells_of {w : World} {d r : Nat} {F : Nat → Prop} {p : Nat → Nat} {m : DM} (h : PDisk w d F m) (hr : RD w r p m) (s : Int) (hsw : s ≤ 9223372036854775807) (hfew : m.waits.length ≤ 1000000) :
    Calls Try.prog 12 #[.pointer (some ⟨d, 0, none⟩), .pointer (some ⟨r, 0, none⟩), .int .i64 s] w fun e w' => e = .returned (.bool true) ∧ Ext w w' := by
  have hcase := told_cases m s
  have c1 := read_pd h s hfew
  have HC2 := Lib.hid fun (w1 : World) (k : Ext w w1) => rread_out (hr.ext k) s hsw hfew
  have HC3 := Lib.hid fun (w1 : World) (k : Ext w w1) => rest_pd (h.ext k) s
  have HC4 := Lib.hid fun (w1 : World) (k : Ext w w1) => rat_out (hr.ext k) s
  have HC5 := Lib.hid fun (w1 : World) (k : Ext w w1) => meant_pd (h.ext k) s
  have HR := Lib.hid hr
  have HCASE := Lib.hid hcase
  obtain ⟨l1, E1, hl1⟩ : ∃ l E, m.read s = (l, E) := ⟨_, _, rfl⟩
  obtain ⟨l2, lo, E2, hl2⟩ : ∃ l b E, m.at_ s = (l, b, E) := ⟨_, _, _, rfl⟩
  obtain ⟨l3, E3, hl3⟩ : ∃ l E, m.means s = (l, E) := ⟨_, _, rfl⟩
  rw [hl1] at c1 HC2
  rw [hl2] at HC3 HC4 HCASE
  rw [hl3] at HC5 HCASE
  have HC1 := Lib.hid c1
  clear h hr hcase c1 hl1 hl2 hl3 hsw hfew
  go_enter Try.func12, Try.ntmps12
  go_wp2_with fail
  refine HC1.out.mono ?_
  rintro e w1 ⟨A, na, rfl, hn, hx⟩
  have HE := Lib.hid hx
  have HNA := Lib.hid hn
  clear hn hx
  go_wp2_with fail
  refine (HC2.out w1 HE.out).mono ?_
  rintro e w2 ⟨A2, n2, k2, rfl, hb, hx⟩
  have HE1 := Lib.hid hx
  have HE := Lib.hid (HE.out.trans hx)
  have HB2 := Lib.hid hb
  clear hb hx
  go_wp2_with fail
  refine (HC3.out w2 HE.out).mono ?_
  rintro e w3 ⟨X, nx, rfl, hn, hx⟩
  have HS3 : Hid (w1.heap.size ≤ w2.heap.size) := Lib.hid HE1.out.size
  have HE1 := Lib.hid (HE1.out.trans hx)
  have HB2 := Lib.hid (HB2.out.ext hx)
  have HBX := Lib.hid HE.out.size
  have HE := Lib.hid (HE.out.trans hx)
  have HNX := Lib.hid hn
  have HX3 := Lib.hid hx
  clear hn hx
  go_wp2_with fail
  refine (HC4.out w3 HE.out).mono ?_
  rintro e w4 ⟨A4, n4, k4, rfl, hb, hx⟩
  have HE1 := Lib.hid (HE1.out.trans hx)
  have HB2 := Lib.hid (HB2.out.ext hx)
  have HE3 := Lib.hid hx
  have HE := Lib.hid (HE.out.trans hx)
  have HB4 := Lib.hid hb
  clear hb hx
  go_wp2_with fail
  refine (HC5.out w4 HE.out).mono ?_
  rintro e w5 ⟨P, np, rfl, hn, hx⟩
  have HT : Hid (Ttl w w5 A na X nx P np l3) := Lib.hid ⟨HE.out.trans hx, ⟨_, HNA.out.ext (HE1.out.trans hx)⟩, ⟨_, (HNX.out.base HBX.out).ext (HE3.out.trans hx)⟩, hn.base HE.out.size, new_apart HNA.out HNX.out HS3.out, new_apart HNA.out hn HE1.out.size, new_apart HNX.out hn HE3.out.size⟩
  have HB2 := Lib.hid (HB2.out.ext hx)
  have HB4 := Lib.hid (HB4.out.ext hx)
  have HB1 := Lib.hid (HNA.out.by.ext (HE1.out.trans hx))
  have HB3 := Lib.hid (HNX.out.by.ext (HE3.out.trans hx))
  clear hn hx HE1 HE3 HE HNA HNX HX3 HS3 HBX
  clear HC1 HC2 HC3 HC4 HC5
  have hna : na ≤ 64 := by obtain ⟨l, h⟩ := HT.out.a; exact h.le
  have hnx : nx ≤ 64 := by obtain ⟨l, h⟩ := HT.out.x; exact h.le
  have hnp : np ≤ 64 := HT.out.p.le
  go_wp2_with fail
  refine (same_by A A2 _ _ na n2 _ k2 _ HB1.out HB2.out).mono ?_
  rw [decide_eq_true rfl]
  rintro e w6 ⟨rfl, hx⟩
  have HT := Lib.hid (HT.out.ext hx)
  have HB3 := Lib.hid (HB3.out.ext hx)
  have HB4 := Lib.hid (HB4.out.ext hx)
  clear hx HB1 HB2
  go_wp2_with fail
  refine (same_by X A4 _ _ nx n4 _ k4 _ HB3.out HB4.out).mono ?_
  rw [decide_eq_true rfl]
  rintro e w7 ⟨rfl, hx⟩
  have HT := Lib.hid (HT.out.ext hx)
  clear hx HB3 HB4
  go_wp2_with fail
  go_loopw [19] (fun i wr => ∃ k : Nat, k ≤ na ∧ i = .int .i64 k ∧ Hid (Ttl w wr A na X nx P np l3)) (fun i _ => na - (intOf i).toNat)
  case atStart => exact ⟨0, Nat.zero_le _, rfl, HT⟩
  case round =>
    obtain ⟨k, hkn, rfl, HT⟩ := hrel
    by_cases hlt : k < na
    · obtain ⟨g, x, rfl, hx, hc, hf, hg, hput⟩ := HT.out.putA hlt
      obtain ⟨y, hy, hy2⟩ := next_u8 x
      have HT2 := Lib.hid (hput y hy2)
      clear hput hx hy2
      go_wp2_with fail
      go_roundw
      case rel => exact ⟨k + 1, by omega, by go_num, HT2⟩
      case measure => simp [intOf]; omega
    · go_wp2_with fail
      go_loopw [20] (fun i wr => ∃ k : Nat, k ≤ nx ∧ i = .int .i64 k ∧ Hid (Ttl w wr A na X nx P np l3)) (fun i _ => nx - (intOf i).toNat)
      case atStart => exact ⟨0, Nat.zero_le _, rfl, HT⟩
      case round =>
        clear HT
        obtain ⟨k, hkn, rfl, HT⟩ := hrel
        by_cases hlt : k < nx
        · obtain ⟨g, x, rfl, hx, hc, hf, hg, hput⟩ := HT.out.putX hlt
          obtain ⟨y, hy, hy2⟩ := next_u8 x
          have HT2 := Lib.hid (hput y hy2)
          clear hput hx hy2
          go_wp2_with fail
          go_roundw
          case rel => exact ⟨k + 1, by omega, by go_num, HT2⟩
          case measure => simp [intOf]; omega
        · rcases HCASE.out with ⟨_, h2, h3⟩ | ⟨j, hsj, hj, h2, h3⟩
          · cases h2
            cases h3
            have h0 : np = 0 := HT.out.p.len.symm
            subst h0
            go_wp2_with fail
            go_ret
            exact ⟨rfl, HT.out.bel⟩
          · have h2 : E2 = 0 := h2
            cases h3
            subst h2
            subst hsj
            obtain ⟨⟨q, hq⟩, _⟩ := HR.out.ext HT.out.bel
            obtain ⟨⟨_, d1, _⟩, _⟩ := hq.head.cells
            obtain ⟨x, hx, hxc, _, _⟩ := hq.meantAt hj
            have hsz := hq.head.n1.2
            have HMB := Lib.hid ((hq.mb j x hx).2.by (fun b hb => HT.out.p.lt b hb))
            have HPB := Lib.hid HT.out.p.by
            unfold slV at hxc
            clear hq hx HR HCASE
            go_wp2_with fail
            refine (same_by P (some ⟨x.1, 0, none⟩) _ _ np 64 np x.2 _ HPB.out HMB.out).mono ?_
            rw [decide_eq_true rfl]
            rintro e w8 ⟨rfl, hx⟩
            have HT := Lib.hid (HT.out.ext hx)
            clear hx hxc d1 HPB HMB
            have HP : Hid (Tlp w w8 P np) := Lib.hid ⟨HT.out.bel, _, HT.out.p⟩
            clear HT
            go_wp2_with fail
            go_loopw [22] (fun i wr => ∃ k : Nat, k ≤ np ∧ i = .int .i64 k ∧ Hid (Tlp w wr P np)) (fun i _ => np - (intOf i).toNat)
            case atStart => exact ⟨0, Nat.zero_le _, rfl, HP⟩
            case round =>
              clear HP
              obtain ⟨k, hkn, rfl, HT⟩ := hrel
              by_cases hlt : k < np
              · obtain ⟨g, x, rfl, hx, hc, hf, hg, hput⟩ := HT.out.put hlt
                obtain ⟨y, hy, hy2⟩ := next_u8 x
                have HT2 := Lib.hid (hput y hy2)
                clear hput hx hy2
                go_wp2_with fail
                go_roundw
                case rel => exact ⟨k + 1, by omega, by go_num, HT2⟩
                case measure => simp [intOf]; omega
              · go_wp2_with fail
                go_ret
                exact ⟨rfl, HT.out.bel⟩
end Go.Proofs.Ytldgamgdbneneaa
