/-
  The walk of the statement on Text and Join: any text has the bytes that the document says, any lists one behind the other are what it says, they stay, and what is told is the caller's own.
-/
import Derived.Test.YtcnjhblboedbpaaRText
import Derived.Test.YtcnjhblboedbpaaOpen
namespace Go.Proofs.Ytcnjhblboedbpaa
open Go Go.RowKit

/-- What a text's bytes are, and which error. -/
def tl (s : ByteArray) : List Nat := if s.size ≤ 255 then s.size :: bl s else []
def te (s : ByteArray) : Int := if s.size ≤ 255 then 0 else 3
theorem otext_all (s : ByteArray) (w : World) (hm : s.size ≤ 9223372036854775807) :
    Calls Try.prog 4 #[.string s] w fun e w' => ∃ X n c, e = .returned (.tuple #[.slice X n c, .int .i64 (te s)]) ∧ By w' X n c (tl s) ∧ Ext w w' := by
  by_cases hs : s.size ≤ 255
  · refine (text_by s w hs).mono ?_
    rintro e w' ⟨A, c, rfl, hb, hx⟩
    exact ⟨A, s.size + 1, c, by simp [te, hs], by simpa [tl, hs] using hb, hx⟩
  · refine (text_no_by s w (by omega) hm).mono ?_
    rintro e w' ⟨rfl, hx⟩
    exact ⟨none, 0, 0, by simp [te, hs], by simpa [tl, hs] using By.nil_ w', hx⟩
theorem rtext_all (s : ByteArray) (w : World) (hm : s.size ≤ 9223372036854775807) :
    Calls Try.prog 5 #[.string s] w fun e w' => ∃ X n c, e = .returned (.tuple #[.slice X n c, .int .i64 (te s)]) ∧ By w' X n c (tl s) ∧ Ext w w' := by
  by_cases hs : s.size ≤ 255
  · refine (rtext_yes s w hs).mono ?_
    rintro e w' ⟨A, c, rfl, hb, hx⟩
    exact ⟨A, s.size + 1, c, by simp [te, hs], by simpa [tl, hs] using hb, hx⟩
  · refine (rtext_no s w (by omega) hm).mono ?_
    rintro e w' ⟨rfl, hx⟩
    exact ⟨none, 0, 0, by simp [te, hs], by simpa [tl, hs] using By.nil_ w', hx⟩

/-- Join's contract, with what the new memory is: the call's own. -/
theorem join_own (ps : List (Value × List Nat)) (m N : Nat) (w : World) (cs : Array Value) (hm : ps.length = m) (hcs : cs = (ps.map (·.1)).toArray) (he : ∀ p ∈ ps, ∃ A n c, p.1 = .slice A n c ∧ By w A n c p.2)
    (hN : (cat ps).length = N) (hm9 : m ≤ 1000) (hN9 : N ≤ 140737488355328) :
    Calls Try.prog 7 #[.slice (some ⟨w.heap.size, 0, none⟩) m m] (w.alloc (.cells cs 22)) fun e w' => ∃ A' c', e = .returned (.slice A' N c') ∧ w'.ownsRow w.heap.size 5 1 (.slice A' N c') N (vb (cat ps)) ∧ Ext w w' := by
  refine (join_any _ m m ps _ (parts_lit hm hcs he) (by omega) (by omega)).mono ?_
  rintro e w' ⟨A', c', rfl, hown, hx⟩
  rw [hN] at hown
  exact ⟨A', c', by rw [hN], own_base hown (by simp), ((Ext.refl w).alloc _).trans hx⟩
theorem join_none (w : World) : Calls Try.prog 7 #[.slice none 0 0] w fun e w' => ∃ A' c', e = .returned (.slice A' 0 c') ∧ Ext w w' := by
  refine (join_any none 0 0 [] w ⟨rfl, fun h => absurd h (by omega), fun p hp => by simp at hp⟩ (by omega) (by simp [cat])).mono ?_
  rintro e w' ⟨A', c', rfl, _, hx⟩
  exact ⟨A', c', rfl, hx⟩

theorem own_cell {w : World} {base t n c k : Nat} {A : Option Addr} {l : List Nat} (h : w.ownsRow base t 1 (.slice A n c) n (vb l)) (hk : k < n) :
    ∃ g x, A = some ⟨g, 0, none⟩ ∧ base ≤ g ∧ l[k]? = some x ∧ w.cell? ⟨g, k, none⟩ = some (.int .u8 ((x : Nat) : Int)) ∧ w.frozen? ⟨g, k, none⟩ = false ∧
      ∀ y : Nat, (w.setCell ⟨g, k, none⟩ (.int .u8 (y : Int))).ownsRow base t 1 (.slice A n c) n (vb (l.set k y)) := by
  have hlen := h.1
  rw [vb_length] at hlen
  rcases h.2 with ⟨_, h0⟩ | ⟨g, cap, cur, hv, hb, _⟩
  · omega
  · injection hv with hA _ _
    subst hA
    have hkl : k < l.length := by omega
    refine ⟨g, l[k], rfl, hb, List.getElem?_eq_getElem hkl, ?_, h.frozenAt k, fun y => ?_⟩
    · rw [h.cellAt k (by omega), vb_get, List.getElem?_eq_getElem hkl]
      rfl
    · have h2 := (h.stored k (.int .u8 (y : Int))).1
      have e : (vb l).set k (.int .u8 (y : Int)) = vb (l.set k y) := by simp [vb, List.map_set]
      rw [e] at h2
      exact h2
theorem own_ext {w w' : World} {b e n : Nat} {v : Value} {xs : List Value} (h : w.ownsRow b e 1 v n xs) (hx : Ext w w') : w'.ownsRow b e 1 v n xs := by
  refine ⟨h.1, ?_⟩
  rcases h.2 with h2 | ⟨g, cap, cur, h2, h3, h4, h5⟩
  · exact .inl h2
  · exact .inr ⟨g, cap, cur, h2, h3, (Below.block hx g (Array.getElem?_eq_some_iff.1 h4).1).trans h4, h5⟩
theorem Ext.store {a b : World} (h : Ext a b) {g k : Nat} (hg : a.heap.size ≤ g) (u : Value) : Ext a (b.setCell ⟨g, k, none⟩ u) := Below.setCell h (p := ⟨g, k, none⟩) hg u

set_option maxHeartbeats 4000000 in
set_option maxRecDepth 100000 in
theorem octetTexts_law (s : ByteArray) (A : Option Addr) (n c : Nat) (l : List Nat) (A' : Option Addr) (n' c' : Nat) (l' : List Nat) (w : World) (_ : s.size ≤ maxLen) (hb : Bs w w.heap.size A n c l) (hb' : Bs w w.heap.size A' n' c' l') :
    Calls Try.prog 3 #[.string s, .slice A n c, .slice A' n' c'] w fun e w' => e = .returned (.bool true) ∧ Below w.heap.size w w' := by
  show Calls Try.prog 3 #[.string s, .slice A n c, .slice A' n' c'] w fun e w' => e = .returned (.bool true) ∧ Ext w w'
  obtain ⟨i0, hi, hz0, hz1, hz2⟩ := info_parts byte_info
  have HA : Hid (By w A n c l) := Lib.hid hb
  have HA' : Hid (By w A' n' c' l') := Lib.hid hb'
  clear hb hb'
  have big : (1000 < s.size ∨ (s.size ≤ 1000 ∧ 1000 < n) ∨ (s.size ≤ 1000 ∧ n ≤ 1000 ∧ 1000 < n')) → Calls Try.prog 3 #[.string s, .slice A n c, .slice A' n' c'] w fun e w' => e = .returned (.bool true) ∧ Ext w w' := by
    rintro (h | ⟨h, h'⟩ | ⟨h, h', h''⟩)
    all_goals
      go_enter Try.func3, Try.ntmps3
      go_wp2_with fail
      go_ret
      exact ⟨rfl, Ext.refl _⟩
  by_cases h1 : 1000 < s.size
  · exact big (.inl h1)
  by_cases h2 : 1000 < n
  · exact big (.inr (.inl ⟨by omega, h2⟩))
  by_cases h3 : 1000 < n'
  · exact big (.inr (.inr ⟨by omega, by omega, h3⟩))
  clear big
  go_enter Try.func3, Try.ntmps3
  go_wp2_with fail
  refine (otext_all s _ (by omega)).mono ?_
  rintro e w1 ⟨X, xn, xc, rfl, hb, hx⟩
  have HX := Lib.hid hb
  have HA := Lib.hid (HA.out.ext hx)
  have HA' := Lib.hid (HA'.out.ext hx)
  have HE := Lib.hid hx
  clear hb hx
  go_wp2_with fail
  refine (rtext_all s _ (by omega)).mono ?_
  rintro e w2 ⟨Y, yn, yc, rfl, hb, hx⟩
  have HY := Lib.hid hb
  have HX := Lib.hid (HX.out.ext hx)
  have HA := Lib.hid (HA.out.ext hx)
  have HA' := Lib.hid (HA'.out.ext hx)
  have HE := Lib.hid (HE.out.trans hx)
  clear hb hx
  generalize te s = E
  go_wp2_with fail
  refine (copy_by A l n c _ HA.out (by omega)).mono ?_
  rintro e w3 ⟨M, mc, rfl, hb, hx, _⟩
  have HM := Lib.hid hb
  have HY := Lib.hid (HY.out.ext hx)
  have HX := Lib.hid (HX.out.ext hx)
  have HA := Lib.hid (HA.out.ext hx)
  have HA' := Lib.hid (HA'.out.ext hx)
  have HE := Lib.hid (HE.out.trans hx)
  clear hb hx
  go_wp2_with fail
  refine (copy_by A' l' n' c' _ HA'.out (by omega)).mono ?_
  rintro e w4 ⟨O, oc, rfl, hb, hx, _⟩
  have HO := Lib.hid hb
  have HM := Lib.hid (HM.out.ext hx)
  have HY := Lib.hid (HY.out.ext hx)
  have HX := Lib.hid (HX.out.ext hx)
  have HA := Lib.hid (HA.out.ext hx)
  have HA' := Lib.hid (HA'.out.ext hx)
  have HE := Lib.hid (HE.out.trans hx)
  clear hb hx
  go_wp2_with fail
  have hcat : cat [(.slice M n mc, l), (.slice O n' oc, l'), (.slice M n mc, l)] = l ++ l' ++ l := by simp [cat]
  refine (join_own [(.slice M n mc, l), (.slice O n' oc, l'), (.slice M n mc, l)] 3 (n + n' + n) w4 _ rfl rfl ?_ (by rw [hcat, List.length_append, List.length_append, HA.out.len, HA'.out.len]) (by omega) (by omega)).mono ?_
  · intro p hp
    simp only [List.mem_cons, List.not_mem_nil, or_false] at hp
    rcases hp with rfl | rfl | rfl
    · exact ⟨_, _, _, rfl, HM.out⟩
    · exact ⟨_, _, _, rfl, HO.out⟩
    · exact ⟨_, _, _, rfl, HM.out⟩
  rw [hcat]
  rintro e w5 ⟨J, jc, rfl, hown, hx⟩
  have HW := Lib.hid hown
  have HJ : Hid (By w5 J (n + n' + n) jc (l ++ l' ++ l)) := Lib.hid (Bs.of_own hown (by
    intro b hb
    simp only [List.mem_append] at hb
    rcases hb with (h | h) | h
    · exact HA.out.rd.lt b h
    · exact HA'.out.rd.lt b h
    · exact HA.out.rd.lt b h))
  have HK := Lib.hid hx
  have HY := Lib.hid (HY.out.ext hx)
  have HX := Lib.hid (HX.out.ext hx)
  have HA5 := Lib.hid (HA.out.ext hx)
  have HA5' := Lib.hid (HA'.out.ext hx)
  clear hown hx hcat
  go_wp2_with fail
  refine (copy_by A l n c _ HA5.out (by omega)).mono ?_
  rintro e w6 ⟨Q, qc, rfl, _, hx, hown⟩
  have HQ := Lib.hid hown
  have HA6 := Lib.hid (HA5.out.ext hx)
  have HA6' := Lib.hid (HA5'.out.ext hx)
  have HZ := Lib.hid hx
  have hz := Ext.size hx
  clear hown hx
  go_wp2_with (at_builtin; refine wpList_append_by rfl _ _ 22 rfl w5.heap.size 5 i0 Try.underlying22 hi hz0 hz1 hz2 _ _ _ rfl HQ.out _ _ _ _ rfl HA6'.out (by omega) hz ?_)
  intro v7 w7 hown hg
  have hx : Ext w5 w7 := Below.grown HZ.out hg hz (fun g hg' => (HQ.out.lt g hg').1)
  have HO7 := Lib.hid hown
  have HX7 := Lib.hid hx
  have HA7 := Lib.hid (HA5.out.ext hx)
  have hz7 := Ext.size hx
  clear hown hg hx
  go_wp2_with (at_builtin; refine wpList_append_by rfl _ _ 22 rfl w5.heap.size 5 i0 Try.underlying22 hi hz0 hz1 hz2 _ _ _ rfl HO7.out _ _ _ _ rfl HA7.out (by omega) hz7 ?_)
  intro v8 w8 hown hg
  have hx : Ext w5 w8 := Below.grown HX7.out hg hz7 (fun g hg' => (HO7.out.lt g hg').1)
  rw [← vb_append, ← vb_append, ← List.append_assoc] at hown
  obtain ⟨V, vc, rfl, _, _⟩ := own_form hown
  have HV : Hid (By w8 V (n + n' + n) vc (l ++ l' ++ l)) := Lib.hid (Bs.of_own hown HJ.out.rd.lt)
  have HJ8 := Lib.hid (HJ.out.ext hx)
  have HXX := Lib.hid (HX.out.ext hx)
  have HYY := Lib.hid (HY.out.ext hx)
  have HX8 := Lib.hid hx
  clear hown hg
  go_wp2_with fail
  refine (same_by _ _ _ _ _ _ _ _ _ HXX.out HYY.out).mono ?_
  rw [show decide (tl s = tl s) = true by simp]
  rintro e w9 ⟨rfl, hx⟩
  have HJ9 := Lib.hid (HJ8.out.ext hx)
  have HV := Lib.hid (HV.out.ext hx)
  have HX9 := Lib.hid (HX8.out.trans hx)
  clear hx
  go_wp2_with fail
  refine (same_by _ _ _ _ _ _ _ _ _ HJ9.out HV.out).mono ?_
  rw [show decide (l ++ l' ++ l = l ++ l' ++ l) = true by simp]
  rintro e w10 ⟨rfl, hx⟩
  have HX10 := Lib.hid (HX9.out.trans hx)
  clear hx
  go_wp2_with fail
  refine (join_none _).mono ?_
  rintro e w11 ⟨Z, zc, rfl, hx⟩
  have HK11 := Lib.hid (HK.out.trans (HX10.out.trans hx))
  have HW11 := Lib.hid (own_ext HW.out (HX10.out.trans hx))
  clear hx
  go_wp2_with fail
  go_loopw [16] (fun i wr => ∃ (k : Nat) (q : List Nat), k ≤ n + n' + n ∧ i = .int .i64 k ∧ Hid (wr.ownsRow w4.heap.size 5 1 (.slice J (n + n' + n) jc) (n + n' + n) (vb q)) ∧ Hid (∀ b ∈ q, b < 256) ∧ Hid (Ext w4 wr)) (fun i _ => n + n' + n - (intOf i).toNat)
  case atStart => exact ⟨0, _, Nat.zero_le _, rfl, HW11, Lib.hid HJ.out.rd.lt, HK11⟩
  case round =>
    obtain ⟨k, q, hk, rfl, HWr, HQr, HKr⟩ := hrel
    by_cases hlt : k < n + n' + n
    · obtain ⟨g, x, hJ, hg, hx, hc, hfz, hst⟩ := own_cell HWr.out hlt
      subst hJ
      have HST := Lib.hid hst
      have hx2 : x < 256 := HQr.out x (List.mem_of_getElem? hx)
      clear hx hst
      go_wp2_with fail
      go_roundw
      case rel =>
        refine ⟨k + 1, q.set k ((x + 1) % 256), by omega, by go_num, ?_, Lib.hid ?_, Lib.hid (HKr.out.store hg _)⟩
        · have h := HST.out ((x + 1) % 256)
          rw [show (((x + 1) % 256 : Nat) : Int) = ((x : Int) + 1) % 256 by omega] at h
          exact h
        · intro b hb
          rcases List.mem_or_eq_of_mem_set hb with h | h
          · exact HQr.out b h
          · omega
      case measure => simp [intOf]; omega
    · have HM12 := Lib.hid (HM.out.ext HKr.out)
      have HO12 := Lib.hid (HO.out.ext HKr.out)
      have HA12 := Lib.hid (HA.out.ext HKr.out)
      have HB12 := Lib.hid (HA'.out.ext HKr.out)
      have HE12 := Lib.hid (HE.out.trans HKr.out)
      go_wp2_with fail
      have hcat : cat [(.slice M n mc, l)] = l := by simp [cat]
      refine (join_own [(.slice M n mc, l)] 1 n wr _ rfl rfl ?_ (by rw [hcat, HA.out.len]) (by omega) (by omega)).mono ?_
      · intro p hp
        simp only [List.mem_cons, List.not_mem_nil, or_false] at hp
        subst hp
        exact ⟨_, _, _, rfl, HM12.out⟩
      rw [hcat]
      rintro e w13 ⟨J2, jc2, rfl, hown, hx⟩
      have HW13 := Lib.hid hown
      have HK13 := Lib.hid hx
      clear hown hx hcat
      go_wp2_with fail
      go_loopw [18] (fun i ws => ∃ (k : Nat) (q : List Nat), k ≤ n ∧ i = .int .i64 k ∧ Hid (ws.ownsRow wr.heap.size 5 1 (.slice J2 n jc2) n (vb q)) ∧ Hid (∀ b ∈ q, b < 256) ∧ Hid (Ext wr ws)) (fun i _ => n - (intOf i).toNat)
      case atStart => exact ⟨0, _, Nat.zero_le _, rfl, HW13, Lib.hid HA.out.rd.lt, HK13⟩
      case round =>
        obtain ⟨k2, q2, hk2, rfl, HWs, HQs, HKs⟩ := hrel
        by_cases hlt2 : k2 < n
        · obtain ⟨g, x, hJ, hg, hx, hc, hfz, hst⟩ := own_cell HWs.out hlt2
          subst hJ
          have HST := Lib.hid hst
          have hx2 : x < 256 := HQs.out x (List.mem_of_getElem? hx)
          clear hx hst
          go_wp2_with fail
          go_roundw
          case rel =>
            refine ⟨k2 + 1, q2.set k2 ((x + 1) % 256), by omega, by go_num, ?_, Lib.hid ?_, Lib.hid (HKs.out.store hg _)⟩
            · have h := HST.out ((x + 1) % 256)
              rw [show (((x + 1) % 256 : Nat) : Int) = ((x : Int) + 1) % 256 by omega] at h
              exact h
            · intro b hb
              rcases List.mem_or_eq_of_mem_set hb with h | h
              · exact HQs.out b h
              · omega
          case measure => simp [intOf]; omega
        · have HM14 := Lib.hid (HM12.out.ext HKs.out)
          have HO14 := Lib.hid (HO12.out.ext HKs.out)
          have HA14 := Lib.hid (HA12.out.ext HKs.out)
          have HB14 := Lib.hid (HB12.out.ext HKs.out)
          have HE14 := Lib.hid (HE12.out.trans HKs.out)
          go_wp2_with fail
          refine (same_by _ _ _ _ _ _ _ _ _ HM14.out HA14.out).mono ?_
          rw [show decide (l = l) = true by simp]
          rintro e w15 ⟨rfl, hx⟩
          have HO15 := Lib.hid (HO14.out.ext hx)
          have HB15 := Lib.hid (HB14.out.ext hx)
          have HE15 := Lib.hid (HE14.out.trans hx)
          clear hx
          go_wp2_with fail
          refine (same_by _ _ _ _ _ _ _ _ _ HO15.out HB15.out).mono ?_
          rw [show decide (l' = l') = true by simp]
          rintro e w16 ⟨rfl, hx⟩
          have HE16 := Lib.hid (HE15.out.trans hx)
          clear hx
          go_wp2_with fail
          go_ret
          exact ⟨rfl, HE16.out⟩
end Go.Proofs.Ytcnjhblboedbpaa
