/-
  The contract of the statements' Do: an act at the program's disk.
-/
import Derived.Test.YtldgamgdbneneaaKPd
import Derived.Test.YtldgamgdbneneaaKSector
import Derived.Laws.OwnMore
namespace Go.Proofs.Ytldgamgdbneneaa
set_option maxRecDepth 100000
open Go Go.RowKit

theorem PDisk.wide {w : World} {d : Nat} {F G : Nat → Prop} {m : DM} (h : PDisk w d F m) (hF : ∀ k, F k → G k) (hG : ∀ k, G k → k < w.heap.size) : PDisk w d G m := by
  obtain ⟨g, pv, h1, h2, _⟩ := h
  exact ⟨g, pv, h1, fun k hk => hF k (h2 k hk), hG⟩
theorem Off.mono {F G : Nat → Prop} {A : Option Addr} (h : Off G A) (hF : ∀ k, F k → G k) : Off F A := fun p hp hf => h p hp (hF _ hf)
/-- Behind steps that wrote none of its blocks, and one that was the disk's: the whole call's. -/
theorem outc_of {w w1 w2 w3 : World} {d : Nat} {F : Nat → Prop} {m' : DM} (hF : ∀ k, F k → k < w.heap.size) (h1 : Ext w w1) (h2 : PDisk w2 d (grow F w1 w2) m') (h3 : Mod F w1 w2) (h4 : Mod (fun k => w.heap.size ≤ k ∧ k < w1.heap.size) w2 w3) : PDisk w3 d (grow F w w3) m' ∧ Mod F w w3 := by
  refine ⟨(h2.mod h4 fun i hi hl => ?_).wide (fun k hk => ?_) (fun k hk => ?_), ((Mod.of_ext h1).then h3).trans h4 fun i hi => .inr hi.1⟩
  · rcases hi with hi | hi
    · have := hF i hi; omega
    · omega
  · rcases hk with hk | hk
    · exact .inl hk
    · exact .inr ⟨Nat.le_trans h1.size hk.1, Nat.lt_of_lt_of_le hk.2 h4.size⟩
  · rcases hk with hk | hk
    · exact Nat.lt_of_lt_of_le (hF k hk) (Nat.le_trans h1.size (Nat.le_trans h3.size h4.size))
    · exact hk.2
theorem Act5.Ok.ext {a : Act5} {w w' : World} (h : a.Ok w w.heap.size) (k : Ext w w') : a.Ok w' w'.heap.size := (h.below k).more k.size

/-- What an act does, by the rest of its kind. -/
def actR (m : DM) (r : Nat) (sec num : Int) (bl : List Nat) (kl : List Bool) : Int × DM :=
  match r with
  | 0 => m.flush
  | 1 => m.crash kl
  | 2 => m.start
  | 3 => m.flip sec num
  | 4 => m.lose sec
  | 5 => m.stray sec num
  | 8 => m.setPower num
  | _ => m.write sec (actB num bl)
theorem act_actR (m : DM) (kind r : Nat) (h : kind % 9 = r) (sec num : Int) (bl : List Nat) (kl : List Bool) : m.act kind sec num bl kl = actR m r sec num bl kl := by
  subst h
  rfl
set_option maxRecDepth 100000 in
set_option maxHeartbeats 6400000 in
theorem do_of {w : World} {d : Nat} {F : Nat → Prop} {m : DM} (h : PDisk w d F m) (a : Act5) (ha : a.Ok w w.heap.size) (hk : 0 < a.kn → Off F a.kA) (hn : a.bn ≤ 140737488355328) (hfew : m.waits.length ≤ 1000000) :
    Calls Try.prog 8 #[.pointer (some ⟨d, 0, none⟩), actV a] w (Outc d F w (m.act a.kind a.sec a.num a.bl a.kl).1 (m.act a.kind a.sec a.num a.bl a.kl).2) := by
  unfold actV
  have hE := (Ext.refl w).alloc (.cells #[.int .u8 (a.kind : Int), .int .i64 a.sec, .int .i64 a.num, .slice a.bA a.bn a.bc, .slice a.kA a.kn a.kc] 36)
  have H := Lib.hid (h.ext hE)
  have HFL := Lib.hid h.lt
  have HA := Lib.hid (ha.ext hE)
  have HK := Lib.hid hk
  have HE := Lib.hid hE
  have hnum : a.num ≤ 9223372036854775807 := (bounds_i64 ha.num).2
  have HNUM := Lib.hid hnum
  obtain ⟨r, hr⟩ : ∃ r, a.kind % 9 = r := ⟨_, rfl⟩
  have hr9 : r < 9 := by omega
  have hrm : ((a.kind : Nat) : Int).tmod 9 = (r : Int) := by rw [Int.tmod_eq_emod_of_nonneg (by omega)]; omega
  have HACT := Lib.hid (act_actR m a.kind r hr a.sec a.num a.bl a.kl)
  clear h ha hk hE hr hnum
  have fin : ∀ (E : Int) (m' : DM) (w2 : World), m.act a.kind a.sec a.num a.bl a.kl = (E, m') → PDisk w2 d (grow F (w.alloc (.cells #[.int .u8 (a.kind : Int), .int .i64 a.sec, .int .i64 a.num, .slice a.bA a.bn a.bc, .slice a.kA a.kn a.kc] 36)) w2) m' → Mod F (w.alloc (.cells #[.int .u8 (a.kind : Int), .int .i64 a.sec, .int .i64 a.num, .slice a.bA a.bn a.bc, .slice a.kA a.kn a.kc] 36)) w2 →
      Outc d F w (m.act a.kind a.sec a.num a.bl a.kl).1 (m.act a.kind a.sec a.num a.bl a.kl).2 (.returned (.int .i64 E)) w2 := fun E m' w2 he hp hm => by
    have := outc_of HFL.out HE.out hp hm (Mod.refl _ _)
    rw [he]
    exact ⟨rfl, this.1, this.2⟩
  have HFIN := Lib.hid fin
  clear fin
  have hcases : r = 0 ∨ r = 1 ∨ r = 2 ∨ r = 3 ∨ r = 4 ∨ r = 5 ∨ r = 8 ∨ (r = 6 ∨ r = 7) := by omega
  rcases hcases with e | e | e | e | e | e | e | e
  · subst e
    go_enter Try.func8, Try.ntmps8
    go_wp2_with fail
    refine (flush_pd H.out).mono ?_
    rintro e w2 ⟨rfl, hp, hm⟩
    have hfin := HFIN.out _ _ w2 HACT.out hp hm
    have HF := Lib.hid hfin
    clear hfin hp hm
    go_wp2_with fail
    go_ret
    exact HF.out
  · subst e
    go_enter Try.func8, Try.ntmps8
    go_wp2_with fail
    refine (crash_pd H.out a.kA a.kn a.kc a.kl HA.out.keep HK.out).mono ?_
    rintro e w2 ⟨rfl, hp, hm⟩
    have hfin := HFIN.out _ _ w2 HACT.out hp hm
    have HF := Lib.hid hfin
    clear hfin hp hm
    go_wp2_with fail
    go_ret
    exact HF.out
  · subst e
    go_enter Try.func8, Try.ntmps8
    go_wp2_with fail
    refine (start_pd H.out).mono ?_
    rintro e w2 ⟨rfl, hp, hm⟩
    have hfin := HFIN.out _ _ w2 HACT.out hp hm
    have HF := Lib.hid hfin
    clear hfin hp hm
    go_wp2_with fail
    go_ret
    exact HF.out
  · subst e
    go_enter Try.func8, Try.ntmps8
    go_wp2_with fail
    refine (flip_pd H.out a.sec a.num HNUM.out).mono ?_
    rintro e w2 ⟨rfl, hp, hm⟩
    have hfin := HFIN.out _ _ w2 HACT.out hp hm
    have HF := Lib.hid hfin
    clear hfin hp hm
    go_wp2_with fail
    go_ret
    exact HF.out
  · subst e
    go_enter Try.func8, Try.ntmps8
    go_wp2_with fail
    refine (lose_pd H.out a.sec).mono ?_
    rintro e w2 ⟨rfl, hp, hm⟩
    have hfin := HFIN.out _ _ w2 HACT.out hp hm
    have HF := Lib.hid hfin
    clear hfin hp hm
    go_wp2_with fail
    go_ret
    exact HF.out
  · subst e
    go_enter Try.func8, Try.ntmps8
    go_wp2_with fail
    refine (stray_pd H.out a.sec a.num).mono ?_
    rintro e w2 ⟨rfl, hp, hm⟩
    have hfin := HFIN.out _ _ w2 HACT.out hp hm
    have HF := Lib.hid hfin
    clear hfin hp hm
    go_wp2_with fail
    go_ret
    exact HF.out
  · subst e
    go_enter Try.func8, Try.ntmps8
    go_wp2_with fail
    refine (power_pd H.out a.num HNUM.out).mono ?_
    rintro e w2 ⟨rfl, hp, hm⟩
    have hfin := HFIN.out _ _ w2 HACT.out hp hm
    have HF := Lib.hid hfin
    clear hfin hp hm
    go_wp2_with fail
    go_ret
    exact HF.out
  · have HACT1 : Hid (m.act a.kind a.sec a.num a.bl a.kl = m.write a.sec (actB a.num a.bl)) := Lib.hid (by
      rw [HACT.out]
      rcases e with rfl | rfl <;> rfl)
    have g0 : ((r : Int) == 0) = false := by rw [beq_eq_false_iff_ne]; omega
    have g1 : ((r : Int) == 1) = false := by rw [beq_eq_false_iff_ne]; omega
    have g2 : ((r : Int) == 2) = false := by rw [beq_eq_false_iff_ne]; omega
    have g3 : ((r : Int) == 3) = false := by rw [beq_eq_false_iff_ne]; omega
    have g4 : ((r : Int) == 4) = false := by rw [beq_eq_false_iff_ne]; omega
    have g5 : ((r : Int) == 5) = false := by rw [beq_eq_false_iff_ne]; omega
    have g8 : ((r : Int) == 8) = false := by rw [beq_eq_false_iff_ne]; omega
    clear HACT e
    go_enter Try.func8, Try.ntmps8
    go_wp2_with fail
    refine (sector_of a _ HA.out hn).mono ?_
    rintro e w1 ⟨A, n, c, rfl, hown, hx⟩
    have hrow := heap_alloc_new w (.cells #[.int .u8 (a.kind : Int), .int .i64 a.sec, .int .i64 a.num, .slice a.bA a.bn a.bc, .slice a.kA a.kn a.kc] 36)
    have hc1 := cell_of_row w1 _ 1 _ _ _ ((hx.block _ (Array.getElem?_eq_some_iff.1 hrow).1).trans hrow)
    have hsz1 : w.heap.size + 1 ≤ w1.heap.size := by have := hx.size; simpa using this
    have hbs := Bs.of_own hown (actB_lt HA.out.bytes.rd.lt)
    have hfresh : ∀ g, (Value.slice A n c).ownBlock = some g → w.heap.size + 1 ≤ g ∧ g < w1.heap.size := fun g hg => by
      have := hown.lt g hg
      simpa using this
    have HOW := Lib.hid hown
    have HX := Lib.hid hx
    have HFR := Lib.hid hfresh
    have HBS := Lib.hid hbs
    have H1 := Lib.hid (H.out.ext hx)
    have hoff : Off F A := fun p hp hf => by
      subst hp
      have := (hfresh p.block rfl).1
      have := HFL.out _ hf
      omega
    have HOFF := Lib.hid hoff
    clear hown hx hbs hfresh hrow hoff
    go_wp2_with fail
    refine (write_pd H1.out a.sec A n c (actB a.num a.bl) HBS.out HOFF.out hfew).mono ?_
    rintro e w2 ⟨rfl, hp, hm⟩
    have hown2 : w2.ownsRow (w.heap.size + 1) 5 1 (.slice A n c) n (vb (actB a.num a.bl)) := own_base5 (own_mod HOW.out hm fun i hi hf => by
      have := (HFR.out i hi).1
      have := HFL.out _ hf
      omega) (by simp)
    have HP2 := Lib.hid hp
    have HM2 := Lib.hid hm
    have HO2 := Lib.hid hown2
    have HB0 : Hid (∀ x ∈ actB a.num a.bl, x < 256) := Lib.hid (actB_lt HA.out.bytes.rd.lt)
    have hcap := (Bs.cap HBS.out)
    have hmost := (Bs.most HBS.out)
    clear hp hm hown2 hc1
    go_wp2_with fail
    go_loopw [7] (fun i wr => ∃ k : Nat, k ≤ n ∧ i = .int .i64 k ∧ (∃ l : List Nat, (∀ x ∈ l, x < 256) ∧ Hid (wr.ownsRow (w.heap.size + 1) 5 1 (.slice A n c) n (vb l))) ∧ Hid (Mod (fun k => w.heap.size ≤ k ∧ k < w1.heap.size) w2 wr)) (fun i _ => n - (intOf i).toNat)
    case atStart => exact ⟨0, Nat.zero_le _, rfl, ⟨_, HB0.out, HO2⟩, Lib.hid (Mod.refl _ _)⟩
    case round =>
      obtain ⟨k, hk, rfl, ⟨l, hl, HO⟩, HM⟩ := hrel
      by_cases hlt : k < n
      · obtain ⟨g, cap, hv⟩ := Go.Joins.ownsRow_form HO.out (by omega)
        injection hv with hA _ hc
        subst hA; subst hc
        have hll : l.length = n := by
          have := HO.out.1
          rwa [vb_length, Nat.mul_one] at this
        obtain ⟨x, hx⟩ : ∃ x, l[k]? = some x := ⟨_, List.getElem?_eq_getElem (by omega)⟩
        have hcx : wr.cell? ⟨g, k, none⟩ = some (.int .u8 (x : Int)) := by
          rw [HO.out.cellAt k (by omega), vb_get, hx]
          rfl
        have hfz := HO.out.frozenAt k
        have hx2 : x < 256 := hl x (List.mem_of_getElem? hx)
        obtain ⟨y, hy⟩ : ∃ y : Nat, IntKind.u8.wrap ((x : Int) + 1) = (y : Int) := ⟨((x + 1) % 256), by rw [IntKind.wrap_u8]; omega⟩
        have hy2 : y < 256 := by rw [IntKind.wrap_u8] at hy; omega
        have hgf := HFR.out g rfl
        have HL := Lib.hid hl
        clear hx hl hll
        go_wp2_with fail
        go_roundw
        case rel =>
          refine ⟨k + 1, by omega, by go_num, ⟨l.set k y, fun z hz => ?_, Lib.hid ?_⟩, Lib.hid (HM.out.setCell (p := ⟨g, k, none⟩) (.inl ⟨by show w.heap.size ≤ g; omega, hgf.2⟩) _)⟩
          · rcases List.mem_or_eq_of_mem_set hz with h | h
            · exact HL.out z h
            · rw [h]; exact hy2
          · have hs := (HO.out.stored k (.int .u8 (y : Int))).1
            rw [show (vb l).set k (.int .u8 (y : Int)) = vb (l.set k y) by unfold vb; rw [List.map_set]] at hs
            exact hs
        case measure => simp [intOf]; omega
      · go_wp2_with fail
        go_ret
        have ho := outc_of (w1 := w1) HFL.out (HE.out.trans HX.out) HP2.out HM2.out HM.out
        rw [HACT1.out]
        exact ⟨rfl, ho.1, ho.2⟩
end Go.Proofs.Ytldgamgdbneneaa
