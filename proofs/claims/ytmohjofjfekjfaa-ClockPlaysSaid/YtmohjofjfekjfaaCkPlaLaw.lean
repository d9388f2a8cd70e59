/-
  Whatever goes by, any replica's clock stands and beats when the chapter says: the law's walk.
-/
import Derived.Test.YtmohjofjfekjfaaCkRef
import Derived.Test.YtmohjofjfekjfaaCkAw
import Derived.Test.YtmohjofjfekjfaaOpen
namespace Go.Proofs.Ytmohjofjfekjfaa
open Go Go.RowKit

theorem Bs.getP {w : World} {B : Nat} {A : Option Addr} {n c : Nat} {l : List Nat} (h : Bs w B A n c l) {j : Nat} (hj : j < n) : ∃ (g o b : Nat), A = some ⟨g, o, none⟩ ∧ g < B ∧ b < 256 ∧ w.cell? ⟨g, o + j, none⟩ = some (.int .u8 (b : Int)) := by
  have hl : j < l.length := by rw [h.len]; exact hj
  obtain ⟨g, o, e, hg, hc⟩ := h.rd.2 (by omega)
  exact ⟨g, o, l[j], e, hg, h.rd.1 _ (List.getElem_mem hl), hc j _ (List.getElem?_eq_getElem hl)⟩
/-- The program's clock and the document's, made since the law began. -/
structure Both (w w' : World) (g P q k s L : Nat) : Prop where
  one : CE w w' g P s (L % 3)
  two : RC w' q k s L
  new : w.heap.size ≤ q
  ne : g ≠ q
section
variable {w a b : World} {g P q k s L s' L' : Nat}
theorem Both.ext (z : Both w a g P q k s L) (x : Ext a b) : Both w b g P q k s L := ⟨⟨z.one.q.ext x, z.one.ext.trans x, z.one.new⟩, z.two.ext x, z.new, z.ne⟩
theorem Both.then {c : World} (z : Both w a g P q k s L) (h1 : CQ b g P s' (L' % 3)) (m1 : Mod (fun i => i = g) a b) (h2 : RC c q k s' L') (m2 : Mod (fun i => i = q) b c) : Both w c g P q k s' L' := by
  have e1 := z.one.mod h1 m1
  exact ⟨⟨h1.mod m2 z.ne, Below.mod e1.ext m2 (Ext.size e1.ext) (fun i e => by rw [show i = q from e]; exact z.new), e1.new⟩, h2, z.new, z.ne⟩
end
set_option maxRecDepth 100000 in
set_option maxHeartbeats 3200000 in
theorem clockPlays_law (r : Int) (A : Option Addr) (n c : Nat) (l : List Nat) (w : World) (_ : (Lit.int .i64 r).wf = true) (hb : Bs w w.heap.size A n c l) :
    Calls Try.prog 3 #[.int .i64 r, .slice A n c] w fun e w' => e = .returned (.bool true) ∧ Below w.heap.size w w' := by
  show Calls Try.prog 3 #[.int .i64 r, .slice A n c] w fun e w' => e = .returned (.bool true) ∧ Ext w w'
  have hnc := hb.cap
  have hnm := hb.most
  have HB := Lib.hid hb
  clear hb
  by_cases hlen : 2000 < n
  · have d1 : decide ((2000 : Int) < (n : Int)) = true := decide_eq_true (by omega)
    have hl2 : (2000 : Int) < (n : Int) := by omega
    go_enter Try.func3, Try.ntmps3
    go_wp2_with fail
    go_ret
    exact ⟨rfl, Ext.refl _⟩
  have d1 : decide ((2000 : Int) < (n : Int)) = false := decide_eq_false (by omega)
  have hl2 : ¬ (2000 : Int) < (n : Int) := by omega
  have HP := Lib.hid (fun V => cpat_of r V)
  have HQ := Lib.hid (fun V => rpat_of r V)
  by_cases hr : 0 ≤ r ∧ r < 7
  · obtain ⟨k, rfl⟩ := Int.eq_ofNat_of_zero_le hr.1
    have hk : k < 7 := by omega
    rw [patC_in hk] at HP HQ
    clear hr
    go_enter Try.func3, Try.ntmps3
    go_wp2_with fail
    refine (cnew_yes k hk _).mono ?_
    rintro r' w2 ⟨rfl, z, e2⟩
    have HZ : Hid (CE w w2 w.heap.size (10 + 4 * k) 0 0) := Lib.hid ⟨z, e2, Nat.le_refl _⟩
    clear z e2
    obtain ⟨g, hg⟩ : ∃ g, w.heap.size = g := ⟨_, rfl⟩
    rw [hg] at HZ ⊢
    clear hg
    go_wp2_with fail
    refine (rnew_of k hk _).mono ?_
    rintro r' w3 ⟨rfl, z, e3⟩
    have H3 : Hid (Both w w3 g (10 + 4 * k) w2.heap.size k 0 0) := Lib.hid ⟨⟨HZ.out.q.ext e3, HZ.out.ext.trans e3, HZ.out.new⟩, z, Ext.size HZ.out.ext, fun e => by have := HZ.out.q.lt; omega⟩
    clear z e3
    obtain ⟨q, hq⟩ : ∃ q, w2.heap.size = q := ⟨_, rfl⟩
    rw [hq] at H3 ⊢
    clear hq
    go_wp2_with fail
    refine (HP.out _).mono ?_
    rintro r' w4 ⟨rfl, rfl⟩
    go_wp2_with fail
    refine (HQ.out _).mono ?_
    rintro r' w4 ⟨rfl, rfl⟩
    go_wp2_with fail
    go_loopw [9] (fun v wr => ∃ j s L : Nat, j ≤ n ∧ v = .int .i64 (j : Int) ∧ Hid (L ≤ j ∧ Both w wr g (10 + 4 * k) q k s L)) (fun v _ => n - (intOf v).toNat)
    case atStart => exact ⟨0, 0, 0, by omega, rfl, Lib.hid ⟨Nat.le_refl _, H3.out⟩⟩
    case round =>
      obtain ⟨j, s, L, hj, rfl, HE⟩ := hrel
      by_cases hlt : j < n
      · have hjn : (j : Int) < (n : Int) := by omega
        obtain ⟨ga, oa, b, rfl, hga, hb, hcb⟩ := Bs.getP (Bs.below HB.out HE.out.2.one.ext) hlt
        have hgg := HE.out.2.one.new
        have hqq := HE.out.2.new
        have hne1 : ¬ ga = g := by omega
        have hlt0 := World.block_lt_of_cell? wr _ hcb
        have HL5 : Hid (L ≤ 5000) := Lib.hid (by have := HE.out.1; omega)
        by_cases hb2 : b % 3 = 2
        · have e2 : ((b : Int) % 3 == 2) = true := by simp; omega
          go_wp2_with fail
          refine (cHear_of HE.out.2.one.q).mono ?_
          rintro r' w5 ⟨rfl, z, m⟩
          have HZ5 := Lib.hid (And.intro z m)
          have HR5 := Lib.hid (HE.out.2.two.mod m (fun e => HE.out.2.ne e.symm))
          clear z m
          go_wp2_with fail
          refine (rhear_of HR5.out).mono ?_
          rintro r' w6 ⟨rfl, z, m⟩
          have H6 : Hid (Both w w6 g (10 + 4 * k) q k 0 L) := Lib.hid (HE.out.2.then HZ5.out.1 HZ5.out.2 z m)
          clear z m
          have c1 := H6.out.two.cells.2.1
          go_wp2_with fail
          go_quiet ((go_at_call 16; exact Calls.quiet_of_same ((csilent_of (H6.out.one.q.ext ((Ext.refl w6).drewN _))).mono fun _ _ h => ⟨h.1, h.2.symm⟩)))
          have H7 : Hid (Both w (w6.drewN nq) g (10 + 4 * k) q k 0 L) := Lib.hid (H6.out.ext ((Ext.refl w6).drewN nq))
          go_wp2_with fail
          go_roundw
          case rel => exact ⟨j + 1, 0, L, by omega, by go_num, Lib.hid ⟨Nat.le_succ_of_le HE.out.1, H7.out⟩⟩
          case measure => simp [intOf]; omega
        · have e2 : ((b : Int) % 3 == 2) = false := by simp; omega
          by_cases hb1 : b % 3 = 1
          · have e1 : ((b : Int) % 3 == 1) = true := by simp; omega
            have hc := ctick_lead HE.out.2.one.q
            rw [Nat.mod_add_mod] at hc
            have hd := fun V (zV : RC V q k s L) => rtick_lead zV HL5.out
            obtain ⟨x, hx⟩ : ∃ x, decide ((L + 1) % 3 = 0) = x := ⟨_, rfl⟩
            rw [hx] at hc hd
            have HC := Lib.hid hc
            have HD := Lib.hid hd
            have hxx : (x == x) = true := by simp
            have hxn : (x != x) = false := by simp
            clear hx hc hd
            go_wp2_with fail
            refine HC.out.mono ?_
            rintro r' w5 ⟨rfl, z, m⟩
            have HZ5 := Lib.hid (And.intro z m)
            have HR5 := Lib.hid (HE.out.2.two.mod m (fun e => HE.out.2.ne e.symm))
            clear z m
            have hcb5 := (World.cell?_of_block (a := ⟨ga, oa + j, none⟩) (HZ5.out.2.block ga hlt0 hne1)).trans hcb
            have hlt5 := World.block_lt_of_cell? w5 _ hcb5
            go_wp2_with fail
            refine (HD.out _ HR5.out).mono ?_
            rintro r' w6 ⟨rfl, z, m⟩
            have H6 : Hid (Both w w6 g (10 + 4 * k) q k 0 (L + 1)) := Lib.hid (HE.out.2.then HZ5.out.1 HZ5.out.2 z m)
            clear z m
            have c1 := H6.out.two.cells.2.1
            go_wp2_with fail
            go_quiet ((go_at_call 16; exact Calls.quiet_of_same ((csilent_of (H6.out.one.q.ext ((Ext.refl w6).drewN _))).mono fun _ _ h => ⟨h.1, h.2.symm⟩)))
            have H7 : Hid (Both w (w6.drewN nq) g (10 + 4 * k) q k 0 (L + 1)) := Lib.hid (H6.out.ext ((Ext.refl w6).drewN nq))
            go_wp2_with fail
            go_roundw
            case rel => exact ⟨j + 1, 0, (L + 1), by omega, by go_num, Lib.hid ⟨Nat.succ_le_succ HE.out.1, H7.out⟩⟩
            case measure => simp [intOf]; omega
          · have e1 : ((b : Int) % 3 == 1) = false := by simp; omega
            have hc := ctick_wait HE.out.2.one.q
            have hd := fun V (zV : RC V q k s L) => rtick_wait zV hk HE.out.2.one.q.sl
            obtain ⟨x, hx⟩ : ∃ x, decide ((s + 1) % (10 + 4 * k) = 0) = x := ⟨_, rfl⟩
            rw [hx] at hc hd
            obtain ⟨S, hS⟩ : ∃ S, (s + 1) % (10 + 4 * k) = S := ⟨_, rfl⟩
            rw [hS] at hc hd
            clear hS
            have HC := Lib.hid hc
            have HD := Lib.hid hd
            have hxx : (x == x) = true := by simp
            have hxn : (x != x) = false := by simp
            clear hx hc hd
            go_wp2_with fail
            refine HC.out.mono ?_
            rintro r' w5 ⟨rfl, z, m⟩
            have HZ5 := Lib.hid (And.intro z m)
            have HR5 := Lib.hid (HE.out.2.two.mod m (fun e => HE.out.2.ne e.symm))
            clear z m
            have hcb5 := (World.cell?_of_block (a := ⟨ga, oa + j, none⟩) (HZ5.out.2.block ga hlt0 hne1)).trans hcb
            have hlt5 := World.block_lt_of_cell? w5 _ hcb5
            go_wp2_with fail
            refine (HD.out _ HR5.out).mono ?_
            rintro r' w6 ⟨rfl, z, m⟩
            have H6 : Hid (Both w w6 g (10 + 4 * k) q k S 0) := Lib.hid (HE.out.2.then HZ5.out.1 HZ5.out.2 z m)
            clear z m
            have c1 := H6.out.two.cells.2.1
            go_wp2_with fail
            go_quiet ((go_at_call 16; exact Calls.quiet_of_same ((csilent_of (H6.out.one.q.ext ((Ext.refl w6).drewN _))).mono fun _ _ h => ⟨h.1, h.2.symm⟩)))
            have H7 : Hid (Both w (w6.drewN nq) g (10 + 4 * k) q k S 0) := Lib.hid (H6.out.ext ((Ext.refl w6).drewN nq))
            go_wp2_with fail
            go_roundw
            case rel => exact ⟨j + 1, S, 0, by omega, by go_num, Lib.hid ⟨Nat.zero_le _, H7.out⟩⟩
            case measure => simp [intOf]; omega
      · obtain rfl : j = n := by omega
        go_wp2_with fail
        go_ret
        exact ⟨rfl, HE.out.2.one.ext⟩
  · rw [patC_out hr] at HP HQ
    have hc : patC r = 0 := patC_out hr
    go_enter Try.func3, Try.ntmps3
    go_wp2_with fail
    refine (cnew_no r hc _).mono ?_
    rintro r' w2 ⟨rfl, rfl⟩
    go_wp2_with fail
    refine (rnew_no r hr _).mono ?_
    rintro r' w3 ⟨⟨q, rfl⟩, x⟩
    have HX := Lib.hid x
    clear x
    go_wp2_with fail
    refine (HP.out _).mono ?_
    rintro r' w4 ⟨rfl, rfl⟩
    go_wp2_with fail
    refine (HQ.out _).mono ?_
    rintro r' w4 ⟨rfl, rfl⟩
    go_wp2_with fail
    refine (HP.out _).mono ?_
    rintro r' w4 ⟨rfl, rfl⟩
    go_wp2_with fail
    refine (HQ.out _).mono ?_
    rintro r' w4 ⟨rfl, rfl⟩
    go_wp2_with fail
    go_ret
    exact ⟨rfl, HX.out⟩
end Go.Proofs.Ytmohjofjfekjfaa
