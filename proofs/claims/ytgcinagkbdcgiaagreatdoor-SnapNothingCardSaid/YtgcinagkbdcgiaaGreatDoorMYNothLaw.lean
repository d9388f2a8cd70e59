/-
  SnapNothing: whatever faults come, if all that is hurt is seen: a shelf that is opened has the snapshot that was installed last, and tells its bytes, or which chunks are hurt; it isn't opened just if both copies of the manifest are hurt.
-/
import Derived.Test.YtgcinagkbdcgiaaGreatDoorM00
import Derived.Test.YtgcinagkbdcgiaaGreatDoorM32
import Derived.Deep.DeepCutAuto
import Derived.Deep.RegionHeld3
namespace Go.Proofs.YtgcinagkbdcgiaaGreatDoor
open Go Go.RowKit
theorem own_keepY {w w' : World} {base n : Nat} {v : Value} {xs : List Value} {F : Nat → Prop} (h : w.ownsRow base 3 1 v n xs) (hm : Mod F w w') (hF : ∀ k, F k → k < base) : w'.ownsRow base 3 1 v n xs :=
  own_mod h hm fun i hi hf => by
    have := (h.lt i hi).1
    have := hF i hf
    omega
theorem own_sliceY {w : World} {base n : Nat} {v : Value} {xs : List Value} {t : TypeId} (h : w.ownsRow base t 1 v n xs) : ∃ A c, v = .slice A n c := by
  rcases h.2 with ⟨rfl, hz⟩ | ⟨g, cap, cur, rfl, _⟩
  · rw [hz]; exact ⟨none, 0, rfl⟩
  · exact ⟨_, _, rfl⟩
theorem own_atY {w : World} {base n : Nat} {v : Value} {l : List Nat} (h : w.ownsRow base 3 1 v n (l.map fun k : Nat => Value.int .i64 (k : Int))) {j a : Nat} (hj : l[j]? = some a) : ∃ g c, v = .slice (some ⟨g, 0, none⟩) n c ∧ w.cell? ⟨g, j, none⟩ = some (.int .i64 (a : Int)) := by
  have hjl := (List.getElem?_eq_some_iff.1 hj).1
  have hln := h.1
  rcases h.2 with ⟨rfl, hz⟩ | ⟨g, cap, cur, rfl, hB, hg, hn, hm, hs, ht⟩
  · rw [List.length_map] at hln
    omega
  · refine ⟨g, cap, rfl, ?_⟩
    have hx : (l.map fun k : Nat => Value.int .i64 (k : Int))[j]? = some (.int .i64 (a : Int)) := by rw [List.getElem?_map, hj]; rfl
    rw [List.length_map] at hln
    rw [cell_of_row w g j _ _ _ hg, ← hx, ← ht, List.getElem?_take_of_lt (by omega), Array.getElem?_toList]
set_option maxRecDepth 100000 in
set_option maxHeartbeats 3200000 in
theorem snapNothing_law (A : Option Addr) (n c : Nat) (L : List Lst) (A2 : Option Addr) (n2 c2 : Nat) (fl : List FltA) (w : World) (h1 : Lsts w w.heap.size A n c L) (h2 : Ls FltA.cells 3 w w.heap.size A2 n2 c2 fl ∧ ∀ a ∈ fl, a.Wf) (hL : LaidY w) :
    Calls Tryz.prog 6 #[.slice A n c, .slice A2 n2 c2] w fun e w' => e = .returned (.bool true) ∧ Ext w w' := by
  have he := eqlY_some_nil
  obtain ⟨i0, hi, hz0, hz1, hz2⟩ := info_parts int_infoY
  have hcap := h1.cap
  have hmost := h1.most
  have hcap2 := h2.1.cap
  have hmost2 := h2.1.most
  have HLS := Lib.hid h1
  have HFL := Lib.hid h2
  have HL := Lib.hid hL
  have HAW := Lib.hid (yawake_any w hL)
  clear h1 h2 hL
  go_enter Tryz.func6, Tryz.ntmps6
  go_wp2_with fail
  refine HAW.out.mono ?_
  rintro e w1 ⟨rfl, hx⟩
  have HX1 := Lib.hid hx
  clear hx
  go_wp2_with fail
  refine (ygreat_of A n c L (HLS.out.ext HX1.out)).mono ?_
  rintro e w2 ⟨b, rfl, rfl, hgr⟩
  cases b with
  | true =>
    go_wp2_with fail
    go_ret
    exact ⟨rfl, HX1.out⟩
  | false =>
    obtain ⟨hn, hin⟩ := hgr rfl
    have HIN := Lib.hid hin
    clear hgr hin
    by_cases hn0 : n = 0
    · have e0 : ((n : Int) == 0) = true := by simpa using hn0
      clear hn0
      go_wp2_with fail
      go_ret
      exact ⟨rfl, HX1.out⟩
    have hn1 : 1 ≤ n := by omega
    have e0 : ((n : Int) == 0) = false := by simpa using hn0
    clear hn0
    by_cases h40 : 40 < n2
    · go_wp2_with fail
      go_ret
      exact ⟨rfl, HX1.out⟩
    go_wp2_with fail
    refine (wnew_dk HX1.out).mono ?_
    rintro e w2 ⟨d, F1, rfl, hk⟩
    have HIN2 := Lib.hid (yinstalled_many hk HL.out A n c L HLS.out hn HIN.out)
    clear hk
    go_wp2_with fail
    refine HIN2.out.mono ?_
    rintro e w3 ⟨g, F3, m3, s, rfl, hd3, hi3, hix3, hni3, har3⟩
    have hz := hi3.zero
    have hok : manOk s = true := hi3.held.kind.resolve_left fun e => by have : s.ix = 0 := by rw [e]
                                                                        omega
    obtain ⟨ar, har⟩ : ∃ ar, s.ar = ar := ⟨_, rfl⟩
    have har2 := har3 hn1
    have hlast : ∃ g0 o0 a0, A = some ⟨g0, o0, none⟩ ∧ L[n - 1]? = some a0 ∧ (∀ V, Ext w V → By V a0.A a0.n a0.c a0.l ∧ V.cell? ⟨g0, o0 + (n - 1), none⟩ = some (.slice a0.A a0.n a0.c)) ∧ lastY L n = a0.l := by
      obtain ⟨g0, o0, a0, e1, _, e2, e3, e4⟩ := HLS.out.at_ (show n - 1 < n by omega)
      refine ⟨g0, o0, a0, e1, e2, fun V hV => ⟨By.ext e3 hV, ext_of_cell hV e4⟩, ?_⟩
      have := lastY_succ e2
      rw [show n - 1 + 1 = n by omega] at this
      exact this
    obtain ⟨g0, o0, a0, rfl, _, hlast, hll⟩ := hlast
    rw [hll] at hi3
    have hct : s.ct = chunkN a0.l.length := by
      rcases hi3.held.ok with ⟨e, _⟩ | ⟨_, e⟩
      · rw [e] at hok; cases hok
      · exact e
    have hmy := MendY.of_held hi3.held hok hct (hlast w (Ext.refl w)).1.rd.lt
    have hfl3 : Flt m3 m3 := ⟨hi3.cd, rfl⟩
    have HH := Lib.hid (hurt_ldY hd3 hfl3 A2 n2 c2 fl HFL.out.1 HFL.out.2)
    have HI := Lib.hid hi3
    have HMY := Lib.hid hmy
    have HNI := Lib.hid hni3
    have HLAST := Lib.hid hlast
    have HIX := Lib.hid hix3
    have HAR := Lib.hid (har.symm.trans har2)
    have HAR0 := Lib.hid har
    have HTWO : Hid (TwoU 2 m3 2 n (ManY n s)) := Lib.hid hi3.two
    clear hd3 hi3 hix3 hni3 har3 hz har har2 hll hct hmy hfl3 hlast HIN2
    go_wp2_with fail
    refine HH.out.mono ?_
    rintro e w4 ⟨⟨v4, rfl⟩, F4, m4, hd4, hf4, _⟩
    have hdk4 := hd4.dk
    have HSE := Lib.hid (ldy_seen hdk4 HL.out hf4.cd)
    clear hd4 HH
    go_wp2_with fail
    refine HSE.out.mono ?_
    rintro e w5 ⟨rfl, hx5⟩
    cases hsn : m4.seenB 2 with
    | false =>
      have HXE := Lib.hid (hdk4.bel.trans hx5)
      clear hdk4 hf4 hsn hx5 HSE
      go_wp2_with fail
      go_ret
      exact ⟨rfl, HXE.out⟩
    | true =>
      have hch := hf4.chunks (r := 2) HI.out.cd HNI.out HMY.out hsn
      have hsome := hf4.some_ (r := 2) (v := n) HI.out.cd HNI.out hsn hn1 HTWO.out
      have hnone := hf4.none_ (r := 2) HI.out.cd HNI.out hsn
      have HDK := Lib.hid (hdk4.ext hx5)
      have HC4 := Lib.hid hf4.cd
      have HCH := Lib.hid hch
      have HSOME := Lib.hid hsome
      have HNONE := Lib.hid hnone
      have HP0 := Lib.hid (ldy_place (hdk4.ext hx5) HL.out hf4.cd 2 0 (by decide))
      have HZ : Hid (n = 0 ↔ s.ix = 0) := Lib.hid HI.out.zero
      have h8 := hch.eight
      clear hdk4 hf4 hch hsome hnone hsn hx5 HSE HI HMY HNI HTWO
      go_wp2_with fail
      refine HP0.out.mono ?_
      rintro e w6 ⟨b6, rfl, hx6⟩
      have HDK := Lib.hid (HDK.out.ext hx6)
      have HP1 := Lib.hid (ldy_place HDK.out HL.out HC4.out 2 1 (by decide))
      clear hx6 HP0
      go_wp2_with fail
      refine HP1.out.mono ?_
      rintro e w7 ⟨b7, rfl, hx7⟩
      have HDK := Lib.hid (HDK.out.ext hx7)
      clear hx7 HP1
      have hha : anyIn m4.hurt (firstS 2 0) (wid 2) = m4.hurtM 0 := rfl
      have hhb : anyIn m4.hurt (firstS 2 1) (wid 2) = m4.hurtM 1 := rfl
      rw [hha, hhb]
      generalize hga : m4.hurtM 0 = ha at *
      generalize hgb : m4.hurtM 1 = hb at *
      clear hha hhb hga hgb
      have harI : (1 : Int) - ((n : Int) % 2) = (ar : Int) := by have := HAR.out; omega
      have har1 : ar ≤ 1 := by have := HAR.out; omega
      obtain ⟨W0, hW0⟩ : ∃ W, W = w7 := ⟨_, rfl⟩
      subst hW0
      have HLOW := Lib.hid HDK.out.disk.lt
      go_wp2_with fail
      go_loopw [15, 17] (fun v i wr => ∃ k : Nat, k ≤ 8 ∧ i = .int .i64 (k : Int) ∧ Hid (wr.ownsRow W0.heap.size 3 1 v ((List.range k).filter (m4.hurtC s)).length (((List.range k).filter (m4.hurtC s)).map fun k : Nat => Value.int .i64 (k : Int)) ∧ Ext W0 wr)) (fun _ i _ => 8 - (intOf i).toNat)
      case atStart => exact ⟨0, Nat.zero_le _, rfl, Lib.hid ⟨World.ownsRow_nil _ _ _ _, Ext.refl _⟩⟩
      case round =>
        obtain ⟨k, hk, rfl, HG⟩ := hrel
        by_cases hlt : k < 8
        · have hpl := ldy_place (HDK.out.ext HG.out.2) HL.out HC4.out 5 ((8 * ar + k : Nat) : Int) (by rw [first5 (by omega)]; omega)
          have hbk : anyIn m4.hurt (firstS 5 ((8 * ar + k : Nat) : Int)) (wid 5) = m4.hurtC s k := by unfold DM.hurtC; rw [HAR0.out]
          have hsc := filt_succ (m4.hurtC s) k
          have hln : ((List.range k).filter (m4.hurtC s)).length ≤ 8 := by
            have := List.length_filter_le (m4.hurtC s) (List.range k)
            rw [List.length_range] at this
            omega
          rw [hbk, show ((8 * ar + k : Nat) : Int) = 8 * (ar : Int) + (k : Int) by omega] at hpl
          generalize m4.hurtC s k = bb at hpl hsc
          have HPL := Lib.hid hpl
          have HSC := Lib.hid hsc
          clear hpl hbk hsc
          cases bb with
          | true =>
            go_wp2_with fail
            refine HPL.out.mono ?_
            rintro e w8 ⟨b8, rfl, hx8⟩
            have HG2 := Lib.hid (And.intro (own_mod (F := fun _ => False) HG.out.1 (Mod.of_ext (hx8.alloc (.cells #[.int .i64 (k : Int)] 3))) fun _ _ hf => hf) (HG.out.2.trans hx8))
            have hsz2 := HG2.out.2.size
            clear hx8 HPL
            go_wp2_with (at_builtin; refine wpList_append_own _ rfl _ _ 103 rfl W0.heap.size 3 i0 (.int .i64 0) 1 8 Tryz.underlying103 hi hz0 hz1 hz2 rfl (by decide) _ _ _ rfl HG2.out.1 ⟨w8.heap.size, 0, none⟩ 1 1 [.int .i64 (k : Int)] rfl rfl ?c1 ?c2 ?c3 ?c4 ?c5 ?_)
            case c1 =>
              intro j u hj
              match j, hj with
              | 0, hj => simp at hj; subst hj; simp [Addr.add]
            case c2 => intro u hu; simp at hu; subst hu; rfl
            case c3 => unfold maxLen; omega
            case c4 => omega
            case c5 => simp; omega
            intro v1 w9 hown hg _
            have HG3 : Hid (w9.ownsRow W0.heap.size 3 1 v1 ((List.range (k + 1)).filter (m4.hurtC s)).length (((List.range (k + 1)).filter (m4.hurtC s)).map fun k : Nat => Value.int .i64 (k : Int)) ∧ Ext W0 w9) := by
              rw [HSC.out, if_pos trivial, List.length_append, List.map_append]
              exact Lib.hid ⟨hown, Below.grown (HG2.out.2.alloc _) hg (Nat.le_trans HG2.out.2.size (by simp)) (fun g hg' => (HG2.out.1.lt g hg').1)⟩
            clear hown hg
            go_wp2_with fail
            go_roundw
            case rel => exact ⟨k + 1, by omega, by go_num, HG3⟩
            case measure => simp [intOf]; omega
          | false =>
            go_wp2_with fail
            refine HPL.out.mono ?_
            rintro e w8 ⟨b8, rfl, hx8⟩
            have hfe : (List.range (k + 1)).filter (m4.hurtC s) = (List.range k).filter (m4.hurtC s) := by
              have := HSC.out
              rw [if_neg (by decide)] at this
              exact this
            have hg3 := And.intro (own_mod (F := fun _ => False) HG.out.1 (Mod.of_ext hx8) fun _ _ hf => hf) (HG.out.2.trans hx8)
            rw [← hfe] at hg3
            have HG3 := Lib.hid hg3
            clear hfe hg3
            clear hx8 HPL
            go_wp2_with fail
            go_roundw
            case rel => exact ⟨k + 1, by omega, by go_num, HG3⟩
            case measure => simp [intOf]; omega
        · have hk8 : k = 8 := by omega
          subst hk8
          by_cases hab : ha = true ∧ hb = true
          · obtain ⟨rfl, rfl⟩ := hab
            have hop := ldy_openBad (HDK.out.ext HG.out.2) HL.out HC4.out (HNONE.out rfl rfl)
            have HOP := Lib.hid hop
            have HXE := Lib.hid (HDK.out.bel.trans HG.out.2)
            clear hop
            go_wp2_with fail
            refine HOP.out.mono ?_
            rintro e w9 ⟨rfl, hx9⟩
            have HXE := Lib.hid (HXE.out.trans hx9)
            clear hx9 HOP
            go_wp2_with fail
            go_ret
            exact ⟨rfl, HXE.out⟩
          · have hop := ldy_openS (HDK.out.ext HG.out.2) HL.out HC4.out (r := 2) (inc := 2) (by omega) (by omega) (HSOME.out hab) HCH.out HZ.out
            have HOP := Lib.hid hop
            have hor : ha = false ∨ (ha = true ∧ hb = false) := by
              cases ha <;> cases hb <;> simp_all
            clear hop hab
            have hB8 : ((List.range 8).filter (m4.hurtC s)).length ≤ 8 := List.length_filter_le _ _
            rcases hor with rfl | ⟨rfl, rfl⟩
            all_goals
              go_wp2_with fail
              refine HOP.out.mono ?_
              rintro e w9 ⟨g9, F9, m9, rfl, hd9, hc9, hm9, hmod9⟩
              have hown9 := own_keepY HG.out.1 hmod9 fun k hk => HLOW.out k hk
              obtain ⟨AB, cB, hvB⟩ := own_sliceY hown9
              subst hvB
              have hix9 := yindex_of hd9.sh
              rw [HIX.out, show ((8 * n : Nat) : Int) = 8 * (n : Int) by omega] at hix9
              have hh9 := hm9.eight
              have hhu := yhurt_yes hd9.sh hd9.dk.disk (hd9.laid0 HL.out) hh9.1 hh9.2.1 (by rw [hc9.b.waits]; simp)
              rw [hm9.hurts hc9 (by omega)] at hhu
              obtain ⟨al1, al2⟩ := hm9.alls hc9 (by omega)
              have hby := fun V (hV : Ext w9 V) => ybytes_of (hd9.ext hV).sh (hd9.ext hV).dk.disk ((hd9.ext hV).laid0 HL.out) hh9.1 hh9.2.1 (by rw [hc9.b.waits]; simp)
              have HBY := Lib.hid hby
              have HAL := Lib.hid (And.intro al1 al2)
              have HD9 := Lib.hid hd9
              have HIX9 := Lib.hid hix9
              have HHU := Lib.hid hhu
              have hlow := filt_low (S := m4.hurtC s) (k := s.ct) (n := 8) hh9.1
              obtain ⟨B, hBdef⟩ : ∃ B, (List.range 8).filter (m4.hurtC s) = B := ⟨_, rfl⟩
              obtain ⟨T, hTdef⟩ : ∃ T, (List.range s.ct).filter (m4.hurtC s) = T := ⟨_, rfl⟩
              rw [hTdef] at HHU HAL hlow
              rw [hBdef] at hown9 hlow hB8 ⊢
              have HOWN := Lib.hid hown9
              have HLW := Lib.hid hlow
              obtain ⟨ct, hctd⟩ : ∃ ct, s.ct = ct := ⟨_, rfl⟩
              have HCTE := Lib.hid hctd
              have hct8 : ct ≤ 8 := by omega
              have hT8 : T.length ≤ 8 := by
                rw [← hTdef]
                have := List.length_filter_le (m4.hurtC s) (List.range s.ct)
                rw [List.length_range] at this
                omega
              clear hd9 hc9 hm9 hmod9 hown9 hix9 hh9 hhu al1 al2 hby hlow hBdef hTdef hctd HOP HG HCH HSOME HNONE
              go_wp2_with fail
              refine HIX9.out.mono ?_
              rintro e w10 ⟨rfl, rfl⟩
              go_wp2_with fail
              refine HHU.out.mono ?_
              rintro e w11 ⟨AT, cT, rfl, hownT, hx11⟩
              have HOWNT := Lib.hid hownT
              have HX11 := Lib.hid hx11
              have HD11 := Lib.hid (HD9.out.ext hx11)
              have HOWN11 := Lib.hid (own_mod (F := fun _ => False) HOWN.out (Mod.of_ext hx11) fun _ _ hf => hf)
              obtain ⟨W1, hW1⟩ : ∃ W, W = w11 := ⟨_, rfl⟩
              subst hW1
              clear hownT hx11 HHU HIX9
              go_wp2_with fail
              go_loopw [24, 25] (fun q i wr => ∃ j : Nat, j ≤ B.length ∧ i = .int .i64 (j : Int) ∧ q = .int .i64 ((((B.take j).filter fun x => decide (x < s.ct)).length : Nat) : Int) ∧ Hid (Ext W1 wr)) (fun _ i _ => B.length - (intOf i).toNat)
              case atStart => exact ⟨0, Nat.zero_le _, rfl, rfl, Lib.hid (Ext.refl _)⟩
              case round =>
                obtain ⟨j, hj, rfl, rfl, HX⟩ := hrel
                by_cases hlt : j < B.length
                · obtain ⟨a, ha⟩ : ∃ a, B[j]? = some a := ⟨_, List.getElem?_eq_getElem hlt⟩
                  have hxd := HX.out.trans ((Ext.refl wr).drew)
                  obtain ⟨gb, cb', eB, hcb⟩ := own_atY (own_mod (F := fun _ => False) HOWN11.out (Mod.of_ext HX.out) fun _ _ hf => hf) ha
                  injection eB with eB1 _ eB3
                  subst eB1 eB3
                  have hcbd := ext_of_cell ((Ext.refl wr).drew) hcb
                  have hcnt := ycount_of (HD11.out.ext hxd).sh
                  rw [HCTE.out] at hcnt
                  have HCNT := Lib.hid hcnt
                  have hft := filt_take (p := fun x => decide (x < s.ct)) ha
                  have hle : ((B.take j).filter fun x => decide (x < s.ct)).length ≤ 8 := by
                    have h1 := List.length_filter_le (fun x => decide (x < s.ct)) (B.take j)
                    have h2 := List.length_take_le j B
                    omega
                  have hget := fun hp => filt_get (p := fun x => decide (x < s.ct)) B j a ha hp
                  rw [HLW.out] at hget
                  rw [HCTE.out] at hft hle hget ⊢
                  obtain ⟨Q, hQ⟩ : ∃ Q, ((B.take j).filter fun x => decide (x < ct)).length = Q := ⟨_, rfl⟩
                  rw [hQ] at hft hle hget ⊢
                  obtain ⟨Q1, hQ1⟩ : ∃ Q1, ((B.take (j + 1)).filter fun x => decide (x < ct)).length = Q1 := ⟨_, rfl⟩
                  have HQ1 := Lib.hid hQ1
                  rw [hQ1] at hft
                  clear hQ hQ1 hcnt ha
                  by_cases hac : a < ct
                  · have hTa := hget (decide_eq_true hac)
                    have hQ1e : Q1 = Q + 1 := by rw [hft, if_pos (decide_eq_true hac)]
                    have hQT : Q < T.length := (List.getElem?_eq_some_iff.1 hTa).1
                    obtain ⟨gt, ct', eT, hct⟩ := own_atY (own_mod (F := fun _ => False) HOWNT.out (Mod.of_ext hxd) fun _ _ hf => hf) hTa
                    injection eT with eT1 _ eT3
                    subst eT1 eT3
                    have HXd := Lib.hid hxd
                    clear hft hget hTa hxd
                    go_wp2_with fail
                    go_region_held3 (fun w' => w'.cell? ⟨gb, j, none⟩ = some (.int .i64 (a : Int)))
                      (first | with_reducible exact hcb | with_reducible exact hcbd | assumption | go_keep)
                      (first | (go_at_call 48; ((with_reducible refine HCNT.out.mono ?_); rintro e w12 ⟨rfl, rfl⟩)))
                    have hQn : ¬ (T.length : Int) ≤ (Q : Int) := by omega
                    have hQn2 : ¬ T.length ≤ Q := by omega
                    have hneq : ((a : Int) != (a : Int)) = false := by simp
                    clear hcb HCNT
                    go_wp2_with fail
                    go_region_held3 (fun w' => w'.cell? ⟨gt, Q, none⟩ = some (.int .i64 (a : Int)) ∧ w'.cell? ⟨gb, j, none⟩ = some (.int .i64 (a : Int)))
                      (first | with_reducible exact ⟨hct, hcbd⟩ | assumption | go_keep)
                      (fail)
                    clear hcbd hct hneq hQn hQn2
                    go_wp2_with fail
                    go_roundw
                    case rel => exact ⟨j + 1, by omega, by go_num, by rw [HQ1.out, hQ1e]; go_num, Lib.hid HXd.out.drew⟩
                    case measure => simp [intOf]; omega
                  · have hQ1e : Q1 = Q := by rw [hft, if_neg (by simpa using hac)]; rfl
                    have hacI : ¬ (a : Int) < (ct : Int) := by omega
                    have HXd := Lib.hid hxd
                    clear hft hget hxd
                    go_wp2_with fail
                    go_region_held3 (fun w' => w'.cell? ⟨gb, j, none⟩ = some (.int .i64 (a : Int)))
                      (first | with_reducible exact hcb | with_reducible exact hcbd | assumption | go_keep)
                      (first | (go_at_call 48; ((with_reducible refine HCNT.out.mono ?_); rintro e w12 ⟨rfl, rfl⟩)))
                    clear hcb hcbd HCNT
                    go_wp2_with fail
                    go_roundw
                    case rel => exact ⟨j + 1, by omega, by go_num, by rw [HQ1.out, hQ1e], HXd⟩
                    case measure => simp [intOf]; omega
                · have hjB : j = B.length := by omega
                  subst hjB
                  have hcnt : ((B.take B.length).filter fun x => decide (x < s.ct)).length = T.length := by rw [List.take_length, HLW.out]
                  rw [hcnt]
                  clear hcnt
                  have hby := HBY.out _ (HX11.out.trans HX.out)
                  have HXE := Lib.hid (HD11.out.dk.bel.trans HX.out)
                  by_cases hT : T = []
                  · obtain ⟨a1, a2⟩ := HAL.out.1 hT
                    rw [a1, a2] at hby
                    have hTl : T.length = 0 := by rw [hT]; rfl
                    rw [hTl]
                    obtain ⟨k1, hk1⟩ : ∃ k1, n - 1 = k1 := ⟨_, rfl⟩
                    have hnk : (n : Int) - 1 = (k1 : Int) := by omega
                    have hkn : k1 < n := by omega
                    have HBYY := Lib.hid hby
                    have HK1 := Lib.hid hk1
                    clear hby a1 a2 hT hTl hk1
                    go_wp2_with fail
                    refine HBYY.out.mono ?_
                    rintro e w12 ⟨A12, N12, c12, rfl, hb12, _, hx12⟩
                    have hla := HLAST.out w12 (HXE.out.trans hx12)
                    rw [HK1.out] at hla
                    obtain ⟨hbl, hcl⟩ := hla
                    have hsm := same_by A12 a0.A a0.l a0.l N12 a0.n c12 a0.c w12 hb12 hbl
                    rw [decide_eq_true (p := a0.l = a0.l) rfl] at hsm
                    have HSM := Lib.hid hsm
                    have HXF := Lib.hid (HXE.out.trans hx12)
                    have HN12 := Lib.hid hb12.len
                    clear hsm hb12 hx12 hbl
                    go_wp2_with fail
                    refine HSM.out.mono ?_
                    rintro e w13 ⟨rfl, hx13⟩
                    have HXG := Lib.hid (HXF.out.trans hx13)
                    clear hx13 hcl
                    go_wp2_with fail
                    go_ret
                    exact ⟨rfl, HXG.out⟩
                  · obtain ⟨a1, a2⟩ := HAL.out.2 hT
                    rw [a1, a2] at hby
                    have hTl : T.length ≠ 0 := fun e => hT (List.length_eq_zero_iff.1 e)
                    have hTz : ((T.length : Int) == 0) = false := by simpa using hT
                    have HBYY := Lib.hid hby
                    clear hby a1 a2 hT hTl
                    generalize T.length = tl at *
                    go_wp2_with fail
                    refine HBYY.out.mono ?_
                    rintro e w12 ⟨A12, N12, c12, rfl, hb12, _, hx12⟩
                    obtain rfl : N12 = 0 := hb12.len.symm
                    have HXF := Lib.hid (HXE.out.trans hx12)
                    clear hb12 hx12
                    go_wp2_with fail
                    go_ret
                    exact ⟨rfl, HXF.out⟩
end Go.Proofs.YtgcinagkbdcgiaaGreatDoor
