/-
  The contract of the statements' Do: an act at the program's disk.
  The contract of the statements' Same: an act at the document's disk; the document's disk since a world.
  Which powers of x are 1: none up to 12,000; so two bits of a row are told apart.
  Plain facts on frames: which checks tell the good ones; bits that are turned about.
  Plain facts on what Open answers, told by what Seal answers; and a piece of a slice of bytes.
-/
import Derived.Test.YtlikhmhomkiadaaGreatDoorR01
import Derived.Test.YtlikhmhomkiadaaGreatDoorR08
import Derived.Test.YtlikhmhomkiadaaGreatDoorR09
import Derived.Test.YtlikhmhomkiadaaGreatDoorR13
import Derived.Test.YtlikhmhomkiadaaGreatDoorR17
import Derived.Test.YtlikhmhomkiadaaGreatDoorR18
import Derived.Laws.OwnMore
namespace Go.Proofs.YtlikhmhomkiadaaGreatDoor
set_option maxRecDepth 100000
open Go Go.RowKit

theorem PDisk.wide {w : World} {d : Nat} {F G : Nat → Prop} {m : DM} (h : PDisk w d F m) (hF : ∀ k, F k → G k) (hG : ∀ k, G k → k < w.heap.size) : PDisk w d G m := by
  obtain ⟨g, pv, h1, h2, _⟩ := h
  exact ⟨g, pv, h1, fun k hk => hF k (h2 k hk), hG⟩
theorem Off.mono {F G : Nat → Prop} {A : Option Addr} (h : Off G A) (hF : ∀ k, F k → G k) : Off F A := fun p hp hf => h p hp (hF _ hf)
/-- Behind steps that wrote none of its blocks, and one that was the disk's: the whole call's. -/
theorem outc_of {w w1 w2 w3 : World} {d : Nat} {F : Nat → Prop} {m' : DM} (hF : ∀ k, F k → k < w.heap.size) (h1 : Ext w w1) (h2 : PDisk w2 d (grow F w1 w2) m') (h3 : Mod F w1 w2) (h4 : Mod (fun k => w.heap.size ≤ k ∧ k < w1.heap.size) w2 w3) : PDisk w3 d (grow F w w3) m' ∧ Mod F w w3 := by
  refine ⟨(h2.mod h4 fun i hi hl => ?_).wide (fun k hk => ?_) (fun k hk => ?_), ((Mod.of_ext h1).then h3).trans h4 fun i hi => .inr hi.1⟩
  · rcases hi with hi | hi
    · have := hF i hi; omega
    · omega
  · rcases hk with hk | hk
    · exact .inl hk
    · exact .inr ⟨Nat.le_trans h1.size hk.1, Nat.lt_of_lt_of_le hk.2 h4.size⟩
  · rcases hk with hk | hk
    · exact Nat.lt_of_lt_of_le (hF k hk) (Nat.le_trans h1.size (Nat.le_trans h3.size h4.size))
    · exact hk.2
theorem Act5.Ok.ext {a : Act5} {w w' : World} (h : a.Ok w w.heap.size) (k : Ext w w') : a.Ok w' w'.heap.size := (h.below k).more k.size

/-- What an act does, by the rest of its kind. -/
def actR (m : DM) (r : Nat) (sec num : Int) (bl : List Nat) (kl : List Bool) : Int × DM :=
  match r with
  | 0 => m.flush
  | 1 => m.crash kl
  | 2 => m.start
  | 3 => m.flip sec num
  | 4 => m.lose sec
  | 5 => m.stray sec num
  | 8 => m.setPower num
  | _ => m.write sec (actB num bl)
theorem act_actR (m : DM) (kind r : Nat) (h : kind % 9 = r) (sec num : Int) (bl : List Nat) (kl : List Bool) : m.act kind sec num bl kl = actR m r sec num bl kl := by
  subst h
  rfl
set_option maxRecDepth 100000 in
set_option maxHeartbeats 6400000 in
theorem do_of {w : World} {d : Nat} {F : Nat → Prop} {m : DM} (h : PDisk w d F m) (a : Act5) (ha : a.Ok w w.heap.size) (hk : 0 < a.kn → Off F a.kA) (hn : a.bn ≤ 140737488355328) (hfew : m.waits.length ≤ 1000000) :
    Calls Tryz.prog 38 #[.pointer (some ⟨d, 0, none⟩), actV a] w (Outc d F w (m.act a.kind a.sec a.num a.bl a.kl).1 (m.act a.kind a.sec a.num a.bl a.kl).2) := by
  unfold actV
  have hE := (Ext.refl w).alloc (.cells #[.int .u8 (a.kind : Int), .int .i64 a.sec, .int .i64 a.num, .slice a.bA a.bn a.bc, .slice a.kA a.kn a.kc] 37)
  have H := Lib.hid (h.ext hE)
  have HFL := Lib.hid h.lt
  have HA := Lib.hid (ha.ext hE)
  have HK := Lib.hid hk
  have HE := Lib.hid hE
  have hnum : a.num ≤ 9223372036854775807 := (bounds_i64 ha.num).2
  have HNUM := Lib.hid hnum
  obtain ⟨r, hr⟩ : ∃ r, a.kind % 9 = r := ⟨_, rfl⟩
  have hr9 : r < 9 := by omega
  have hrm : ((a.kind : Nat) : Int).tmod 9 = (r : Int) := by rw [Int.tmod_eq_emod_of_nonneg (by omega)]; omega
  have HACT := Lib.hid (act_actR m a.kind r hr a.sec a.num a.bl a.kl)
  clear h ha hk hE hr hnum
  have fin : ∀ (E : Int) (m' : DM) (w2 : World), m.act a.kind a.sec a.num a.bl a.kl = (E, m') → PDisk w2 d (grow F (w.alloc (.cells #[.int .u8 (a.kind : Int), .int .i64 a.sec, .int .i64 a.num, .slice a.bA a.bn a.bc, .slice a.kA a.kn a.kc] 37)) w2) m' → Mod F (w.alloc (.cells #[.int .u8 (a.kind : Int), .int .i64 a.sec, .int .i64 a.num, .slice a.bA a.bn a.bc, .slice a.kA a.kn a.kc] 37)) w2 →
      Outc d F w (m.act a.kind a.sec a.num a.bl a.kl).1 (m.act a.kind a.sec a.num a.bl a.kl).2 (.returned (.int .i64 E)) w2 := fun E m' w2 he hp hm => by
    have := outc_of HFL.out HE.out hp hm (Mod.refl _ _)
    rw [he]
    exact ⟨rfl, this.1, this.2⟩
  have HFIN := Lib.hid fin
  clear fin
  have hcases : r = 0 ∨ r = 1 ∨ r = 2 ∨ r = 3 ∨ r = 4 ∨ r = 5 ∨ r = 8 ∨ (r = 6 ∨ r = 7) := by omega
  rcases hcases with e | e | e | e | e | e | e | e
  · subst e
    go_enter Tryz.func38, Tryz.ntmps38
    go_wp2_with fail
    refine (flush_pd H.out).mono ?_
    rintro e w2 ⟨rfl, hp, hm⟩
    have hfin := HFIN.out _ _ w2 HACT.out hp hm
    have HF := Lib.hid hfin
    clear hfin hp hm
    go_wp2_with fail
    go_ret
    exact HF.out
  · subst e
    go_enter Tryz.func38, Tryz.ntmps38
    go_wp2_with fail
    refine (crash_pd H.out a.kA a.kn a.kc a.kl HA.out.keep HK.out).mono ?_
    rintro e w2 ⟨rfl, hp, hm⟩
    have hfin := HFIN.out _ _ w2 HACT.out hp hm
    have HF := Lib.hid hfin
    clear hfin hp hm
    go_wp2_with fail
    go_ret
    exact HF.out
  · subst e
    go_enter Tryz.func38, Tryz.ntmps38
    go_wp2_with fail
    refine (start_pd H.out).mono ?_
    rintro e w2 ⟨rfl, hp, hm⟩
    have hfin := HFIN.out _ _ w2 HACT.out hp hm
    have HF := Lib.hid hfin
    clear hfin hp hm
    go_wp2_with fail
    go_ret
    exact HF.out
  · subst e
    go_enter Tryz.func38, Tryz.ntmps38
    go_wp2_with fail
    refine (flip_pd H.out a.sec a.num HNUM.out).mono ?_
    rintro e w2 ⟨rfl, hp, hm⟩
    have hfin := HFIN.out _ _ w2 HACT.out hp hm
    have HF := Lib.hid hfin
    clear hfin hp hm
    go_wp2_with fail
    go_ret
    exact HF.out
  · subst e
    go_enter Tryz.func38, Tryz.ntmps38
    go_wp2_with fail
    refine (lose_pd H.out a.sec).mono ?_
    rintro e w2 ⟨rfl, hp, hm⟩
    have hfin := HFIN.out _ _ w2 HACT.out hp hm
    have HF := Lib.hid hfin
    clear hfin hp hm
    go_wp2_with fail
    go_ret
    exact HF.out
  · subst e
    go_enter Tryz.func38, Tryz.ntmps38
    go_wp2_with fail
    refine (stray_pd H.out a.sec a.num).mono ?_
    rintro e w2 ⟨rfl, hp, hm⟩
    have hfin := HFIN.out _ _ w2 HACT.out hp hm
    have HF := Lib.hid hfin
    clear hfin hp hm
    go_wp2_with fail
    go_ret
    exact HF.out
  · subst e
    go_enter Tryz.func38, Tryz.ntmps38
    go_wp2_with fail
    refine (power_pd H.out a.num HNUM.out).mono ?_
    rintro e w2 ⟨rfl, hp, hm⟩
    have hfin := HFIN.out _ _ w2 HACT.out hp hm
    have HF := Lib.hid hfin
    clear hfin hp hm
    go_wp2_with fail
    go_ret
    exact HF.out
  · have HACT1 : Hid (m.act a.kind a.sec a.num a.bl a.kl = m.write a.sec (actB a.num a.bl)) := Lib.hid (by
      rw [HACT.out]
      rcases e with rfl | rfl <;> rfl)
    have g0 : ((r : Int) == 0) = false := by rw [beq_eq_false_iff_ne]; omega
    have g1 : ((r : Int) == 1) = false := by rw [beq_eq_false_iff_ne]; omega
    have g2 : ((r : Int) == 2) = false := by rw [beq_eq_false_iff_ne]; omega
    have g3 : ((r : Int) == 3) = false := by rw [beq_eq_false_iff_ne]; omega
    have g4 : ((r : Int) == 4) = false := by rw [beq_eq_false_iff_ne]; omega
    have g5 : ((r : Int) == 5) = false := by rw [beq_eq_false_iff_ne]; omega
    have g8 : ((r : Int) == 8) = false := by rw [beq_eq_false_iff_ne]; omega
    clear HACT e
    go_enter Tryz.func38, Tryz.ntmps38
    go_wp2_with fail
    refine (sector_of a _ HA.out hn).mono ?_
    rintro e w1 ⟨A, n, c, rfl, hown, hx⟩
    have hrow := heap_alloc_new w (.cells #[.int .u8 (a.kind : Int), .int .i64 a.sec, .int .i64 a.num, .slice a.bA a.bn a.bc, .slice a.kA a.kn a.kc] 37)
    have hc1 := cell_of_row w1 _ 1 _ _ _ ((hx.block _ (Array.getElem?_eq_some_iff.1 hrow).1).trans hrow)
    have hsz1 : w.heap.size + 1 ≤ w1.heap.size := by have := hx.size; simpa using this
    have hbs := Bs.of_own hown (actB_lt HA.out.bytes.rd.lt)
    have hfresh : ∀ g, (Value.slice A n c).ownBlock = some g → w.heap.size + 1 ≤ g ∧ g < w1.heap.size := fun g hg => by
      have := hown.lt g hg
      simpa using this
    have HOW := Lib.hid hown
    have HX := Lib.hid hx
    have HFR := Lib.hid hfresh
    have HBS := Lib.hid hbs
    have H1 := Lib.hid (H.out.ext hx)
    have hoff : Off F A := fun p hp hf => by
      subst hp
      have := (hfresh p.block rfl).1
      have := HFL.out _ hf
      omega
    have HOFF := Lib.hid hoff
    clear hown hx hbs hfresh hrow hoff
    go_wp2_with fail
    refine (write_pd H1.out a.sec A n c (actB a.num a.bl) HBS.out HOFF.out hfew).mono ?_
    rintro e w2 ⟨rfl, hp, hm⟩
    have hown2 : w2.ownsRow (w.heap.size + 1) 5 1 (.slice A n c) n (vb (actB a.num a.bl)) := own_base5 (own_mod HOW.out hm fun i hi hf => by
      have := (HFR.out i hi).1
      have := HFL.out _ hf
      omega) (by simp)
    have HP2 := Lib.hid hp
    have HM2 := Lib.hid hm
    have HO2 := Lib.hid hown2
    have HB0 : Hid (∀ x ∈ actB a.num a.bl, x < 256) := Lib.hid (actB_lt HA.out.bytes.rd.lt)
    have hcap := (Bs.cap HBS.out)
    have hmost := (Bs.most HBS.out)
    clear hp hm hown2 hc1
    go_wp2_with fail
    go_loopw [7] (fun i wr => ∃ k : Nat, k ≤ n ∧ i = .int .i64 k ∧ (∃ l : List Nat, (∀ x ∈ l, x < 256) ∧ Hid (wr.ownsRow (w.heap.size + 1) 5 1 (.slice A n c) n (vb l))) ∧ Hid (Mod (fun k => w.heap.size ≤ k ∧ k < w1.heap.size) w2 wr)) (fun i _ => n - (intOf i).toNat)
    case atStart => exact ⟨0, Nat.zero_le _, rfl, ⟨_, HB0.out, HO2⟩, Lib.hid (Mod.refl _ _)⟩
    case round =>
      obtain ⟨k, hk, rfl, ⟨l, hl, HO⟩, HM⟩ := hrel
      by_cases hlt : k < n
      · obtain ⟨g, cap, hv⟩ := Go.Joins.ownsRow_form HO.out (by omega)
        injection hv with hA _ hc
        subst hA; subst hc
        have hll : l.length = n := by
          have := HO.out.1
          rwa [vb_length, Nat.mul_one] at this
        obtain ⟨x, hx⟩ : ∃ x, l[k]? = some x := ⟨_, List.getElem?_eq_getElem (by omega)⟩
        have hcx : wr.cell? ⟨g, k, none⟩ = some (.int .u8 (x : Int)) := by
          rw [HO.out.cellAt k (by omega), vb_get, hx]
          rfl
        have hfz := HO.out.frozenAt k
        have hx2 : x < 256 := hl x (List.mem_of_getElem? hx)
        obtain ⟨y, hy⟩ : ∃ y : Nat, IntKind.u8.wrap ((x : Int) + 1) = (y : Int) := ⟨((x + 1) % 256), by rw [IntKind.wrap_u8]; omega⟩
        have hy2 : y < 256 := by rw [IntKind.wrap_u8] at hy; omega
        have hgf := HFR.out g rfl
        have HL := Lib.hid hl
        clear hx hl hll
        go_wp2_with fail
        go_roundw
        case rel =>
          refine ⟨k + 1, by omega, by go_num, ⟨l.set k y, fun z hz => ?_, Lib.hid ?_⟩, Lib.hid (HM.out.setCell (p := ⟨g, k, none⟩) (.inl ⟨by show w.heap.size ≤ g; omega, hgf.2⟩) _)⟩
          · rcases List.mem_or_eq_of_mem_set hz with h | h
            · exact HL.out z h
            · rw [h]; exact hy2
          · have hs := (HO.out.stored k (.int .u8 (y : Int))).1
            rw [show (vb l).set k (.int .u8 (y : Int)) = vb (l.set k y) by unfold vb; rw [List.map_set]] at hs
            exact hs
        case measure => simp [intOf]; omega
      · go_wp2_with fail
        go_ret
        have ho := outc_of (w1 := w1) HFL.out (HE.out.trans HX.out) HP2.out HM2.out HM.out
        rw [HACT1.out]
        exact ⟨rfl, ho.1, ho.2⟩
end Go.Proofs.YtlikhmhomkiadaaGreatDoor

namespace Go.Proofs.YtlikhmhomkiadaaGreatDoor
set_option maxRecDepth 100000
open Go Go.RowKit

theorem RD.ext {w w' : World} {d : Nat} {p : Nat → Nat} {m : DM} (h : RD w d p m) (k : Ext w w') : RD w' d p m := by
  obtain ⟨⟨q, hq⟩, hlt⟩ := h
  exact ⟨⟨q, hq.ext k⟩, fun i hi => Nat.lt_of_lt_of_le (hlt i hi) k.size⟩
theorem RD.mod {w w' : World} {d : Nat} {p : Nat → Nat} {m : DM} {F : Nat → Prop} (h : RD w d p m) (k : Mod F w w') (hF : ∀ i, p i ≠ 0 → ¬ F i) : RD w' d p m := by
  obtain ⟨⟨q, hq⟩, hlt⟩ := h
  exact ⟨⟨q, hq.mod k hF⟩, fun i hi => Nat.lt_of_lt_of_le (hlt i hi) k.size⟩
theorem ROut.from {w w1 w2 : World} {d : Nat} {p : Nat → Nat} {m' : DM} (h : Ext w w1) (k : ROut d p w1 m' w2) : ROut d p w m' w2 := by
  obtain ⟨p', h1, h2, h3⟩ := k
  exact ⟨p', h1, (Mod.of_ext h).trans h2 fun i hi => .inl hi, fun i hi => (h3 i hi).imp id fun e => Nat.le_trans h.size e⟩
theorem keep5 {u w' : World} {g : Nat} {x0 x1 x2 x3 x4 : Value} {t : TypeId} {G : Nat → Prop} (k : Hid (Mod G u w')) (hg : Hid (¬ G g)) (h : Hid (u.heap[g]? = some (.cells #[x0, x1, x2, x3, x4] t (0, 0)))) :
    w'.cell? ⟨g, 0, none⟩ = some x0 ∧ w'.cell? ⟨g, 1, none⟩ = some x1 ∧ w'.cell? ⟨g, 2, none⟩ = some x2 ∧ w'.cell? ⟨g, 3, none⟩ = some x3 ∧ w'.cell? ⟨g, 4, none⟩ = some x4 := by
  have h2 := heap_mod h.out k.out hg.out
  exact ⟨cell_of_row w' g 0 _ _ _ h2, cell_of_row w' g 1 _ _ _ h2, cell_of_row w' g 2 _ _ _ h2, cell_of_row w' g 3 _ _ _ h2, cell_of_row w' g 4 _ _ _ h2⟩

theorem off_new {V w1 : World} {A : Option Addr} {n c : Nat} {xs : List Value} {p : Nat → Nat} (h : w1.ownsRow V.heap.size 5 1 (.slice A n c) n xs) (hp : ∀ i, p i ≠ 0 → i < V.heap.size) : ¬ ∃ g o, A = some ⟨g, o, none⟩ ∧ p g ≠ 0 := by
  rintro ⟨g, o, rfl, hg⟩
  rcases h.2 with ⟨e, _⟩ | ⟨g2, cap, cur, e, hb, _⟩
  · injection e with e1 _ _
    cases e1
  · injection e with e1 _ _
    injection e1 with e1
    injection e1 with e1 _
    subst e1
    exact absurd (hp _ hg) (by omega)
theorem rout_mod {w w2 : World} {d : Nat} {p : Nat → Nat} {m' : DM} (k : ROut d p w m' w2) : Mod (fun i => p i ≠ 0) w w2 := by
  obtain ⟨_, _, h, _⟩ := k
  exact h
set_option maxRecDepth 100000 in
set_option maxHeartbeats 6400000 in
theorem rsame_of {w : World} {d : Nat} {p : Nat → Nat} {m : DM} (h : RD w d p m) (a : Act5) (ha : a.Ok w w.heap.size) (hk : 0 < a.kn → Off (fun i => p i ≠ 0) a.kA) (hn : a.bn ≤ 200) (hfew : m.waits.length ≤ 1000000) :
    Calls Tryz.prog 43 #[.pointer (some ⟨d, 0, none⟩), .agg #[.int .u8 (a.kind : Int), .int .i64 a.sec, .int .i64 a.num, .slice a.bA a.bn a.bc, .slice a.kA a.kn a.kc]] w fun e w' => e = .returned (.int .i64 (m.act a.kind a.sec a.num a.bl a.kl).1) ∧ ROut d p w (m.act a.kind a.sec a.num a.bl a.kl).2 w' := by
  have hE := (Ext.refl w).alloc (.cells #[.int .u8 (a.kind : Int), .int .i64 a.sec, .int .i64 a.num, .slice a.bA a.bn a.bc, .slice a.kA a.kn a.kc] 37)
  have hrow := heap_alloc_new w (.cells #[.int .u8 (a.kind : Int), .int .i64 a.sec, .int .i64 a.num, .slice a.bA a.bn a.bc, .slice a.kA a.kn a.kc] 37)
  have H := Lib.hid (h.ext hE)
  have HLT := Lib.hid h.2
  have HA := Lib.hid (ha.ext hE)
  have HK := Lib.hid hk
  have HE := Lib.hid hE
  have HROW := Lib.hid hrow
  have hnum : a.num ≤ 9223372036854775807 := (bounds_i64 ha.num).2
  have HNUM := Lib.hid hnum
  obtain ⟨r, hr⟩ : ∃ r, a.kind % 9 = r := ⟨_, rfl⟩
  have hr9 : r < 9 := by omega
  have hrm : ((a.kind : Nat) : Int).tmod 9 = (r : Int) := by rw [Int.tmod_eq_emod_of_nonneg (by omega)]; omega
  have HACT := Lib.hid (act_actR m a.kind r hr a.sec a.num a.bl a.kl)
  clear h ha hk hE hr hnum hrow
  have hcases : r = 0 ∨ r = 1 ∨ r = 2 ∨ r = 3 ∨ r = 4 ∨ r = 5 ∨ r = 8 ∨ (r = 6 ∨ r = 7) := by omega
  rcases hcases with e | e | e | e | e | e | e | e
  · subst e
    go_enter Tryz.func43, Tryz.ntmps43
    go_wp2_with fail
    refine (rflush_out H.out hfew).mono ?_
    rintro e w2 ⟨rfl, ho⟩
    have HF := Lib.hid (ROut.from HE.out ho)
    clear ho
    go_wp2_with fail
    go_ret
    rw [HACT.out]
    exact ⟨rfl, HF.out⟩
  · subst e
    go_enter Tryz.func43, Tryz.ntmps43
    go_wp2_with fail
    refine (rcrash_out H.out hfew a.kA a.kn a.kc a.kl HA.out.keep HK.out).mono ?_
    rintro e w2 ⟨rfl, ho⟩
    have HF := Lib.hid (ROut.from HE.out ho)
    clear ho
    go_wp2_with fail
    go_ret
    rw [HACT.out]
    exact ⟨rfl, HF.out⟩
  · subst e
    go_enter Tryz.func43, Tryz.ntmps43
    go_wp2_with fail
    refine (rstart_out H.out).mono ?_
    rintro e w2 ⟨rfl, ho⟩
    have HF := Lib.hid (ROut.from HE.out ho)
    clear ho
    go_wp2_with fail
    go_ret
    rw [HACT.out]
    exact ⟨rfl, HF.out⟩
  · subst e
    go_enter Tryz.func43, Tryz.ntmps43
    go_wp2_with fail
    refine (rflip_out H.out a.sec a.num HNUM.out).mono ?_
    rintro e w2 ⟨rfl, ho⟩
    have HF := Lib.hid (ROut.from HE.out ho)
    clear ho
    go_wp2_with fail
    go_ret
    rw [HACT.out]
    exact ⟨rfl, HF.out⟩
  · subst e
    go_enter Tryz.func43, Tryz.ntmps43
    go_wp2_with fail
    refine (rlose_out H.out a.sec).mono ?_
    rintro e w2 ⟨rfl, ho⟩
    have HF := Lib.hid (ROut.from HE.out ho)
    clear ho
    go_wp2_with fail
    go_ret
    rw [HACT.out]
    exact ⟨rfl, HF.out⟩
  · subst e
    go_enter Tryz.func43, Tryz.ntmps43
    go_wp2_with fail
    refine (rstray_out H.out a.sec a.num).mono ?_
    rintro e w2 ⟨rfl, ho⟩
    have HF := Lib.hid (ROut.from HE.out ho)
    clear ho
    go_wp2_with fail
    go_ret
    rw [HACT.out]
    exact ⟨rfl, HF.out⟩
  · subst e
    go_enter Tryz.func43, Tryz.ntmps43
    go_wp2_with fail
    refine (rpower_out H.out a.num HNUM.out).mono ?_
    rintro e w2 ⟨rfl, ho⟩
    have HF := Lib.hid (ROut.from HE.out ho)
    clear ho
    go_wp2_with fail
    go_ret
    rw [HACT.out]
    exact ⟨rfl, HF.out⟩
  · have HACT1 : Hid (m.act a.kind a.sec a.num a.bl a.kl = m.write a.sec (actB a.num a.bl)) := Lib.hid (by
      rw [HACT.out]
      rcases e with rfl | rfl <;> rfl)
    have g0 : ((r : Int) == 0) = false := by rw [beq_eq_false_iff_ne]; omega
    have g1 : ((r : Int) == 1) = false := by rw [beq_eq_false_iff_ne]; omega
    have g2 : ((r : Int) == 2) = false := by rw [beq_eq_false_iff_ne]; omega
    have g3 : ((r : Int) == 3) = false := by rw [beq_eq_false_iff_ne]; omega
    have g4 : ((r : Int) == 4) = false := by rw [beq_eq_false_iff_ne]; omega
    have g5 : ((r : Int) == 5) = false := by rw [beq_eq_false_iff_ne]; omega
    have g8 : ((r : Int) == 8) = false := by rw [beq_eq_false_iff_ne]; omega
    obtain ⟨V, hV⟩ : ∃ V, w.alloc (.cells #[.int .u8 (a.kind : Int), .int .i64 a.sec, .int .i64 a.num, .slice a.bA a.bn a.bc, .slice a.kA a.kn a.kc] 37) = V := ⟨_, rfl⟩
    have hVs : V.heap.size = w.heap.size + 1 := by rw [← hV]; simp
    rw [hV] at H HA HE HROW
    have HG : Hid (¬ (fun i => p i ≠ 0) w.heap.size) := Lib.hid fun h => absurd (HLT.out _ h) (by omega)
    have HRd : Hid (V.drew.heap[w.heap.size]? = _) := HROW
    have HM0 : Hid (Mod (fun i => p i ≠ 0) V.drew V.drew) := Lib.hid (Mod.refl _ _)
    have HAd := Lib.hid (HA.out.ext (Ext.refl V).drew)
    have HDd := Lib.hid (H.out.ext (Ext.refl V).drew)
    obtain ⟨c0, c1, c2, c3, c4⟩ := keep5 HM0 HG HRd
    have hc0 := cell_of_row V w.heap.size 0 _ _ _ HROW.out
    have HVS := Lib.hid hVs
    have HSEC : Hid (Calls Tryz.prog 92 #[.agg #[.int .u8 (a.kind : Int), .int .i64 a.sec, .int .i64 a.num, .slice a.bA a.bn a.bc, .slice a.kA a.kn a.kc]] V.drew fun e w' => ∃ A n c, e = .returned (.slice A n c) ∧ w'.ownsRow V.drew.heap.size 5 1 (.slice A n c) n (vb (actB a.num a.bl)) ∧ Ext V.drew w') := Lib.hid (sector_of a _ HAd.out (by omega))
    clear HACT e HROW H HA
    go_enter Tryz.func43, Tryz.ntmps43
    go_wp2_with fail
    go_region_held3 (fun w' => w'.cell? ⟨w.heap.size, 0, none⟩ = some (.int .u8 (a.kind : Int)) ∧ w'.cell? ⟨w.heap.size, 1, none⟩ = some (.int .i64 a.sec) ∧ w'.cell? ⟨w.heap.size, 2, none⟩ = some (.int .i64 a.num) ∧ w'.cell? ⟨w.heap.size, 3, none⟩ = some (.slice a.bA a.bn a.bc) ∧ w'.cell? ⟨w.heap.size, 4, none⟩ = some (.slice a.kA a.kn a.kc))
      (first | exact keep5 (by assumption) HG HRd)
      (first
        | (go_at_call 92; ((with_reducible refine HSEC.out.mono ?_); rintro e w1 ⟨A, n, c, rfl, hown, hx⟩; have HM1 : Hid (Mod (fun i => p i ≠ 0) V.drew w1) := Lib.hid (Mod.of_ext hx); have HX1 := Lib.hid hx; have HD1 := Lib.hid (HDd.out.ext hx); have HB1 : Hid (By w1 A n c (actB a.num a.bl)) := Lib.hid (Bs.of_own hown (actB_lt HAd.out.bytes.rd.lt)); have HO1 := Lib.hid (off_new hown (fun i hi => by have := HLT.out i hi; have h2 := HVS.out; show i < V.heap.size; omega)); clear hown hx))
        | (go_at_call 44; ((with_reducible refine (rwrite_out HD1.out a.sec A n c (actB a.num a.bl) HB1.out HO1.out hfew).mono ?_); rintro e w2 ⟨rfl, ho⟩; have HM2 : Hid (Mod (fun i => p i ≠ 0) V.drew w2) := Lib.hid (HM1.out.trans (rout_mod ho) fun i hi => .inl hi); have HF := Lib.hid (ROut.from (((HE.out.trans (Ext.refl V).drew)).trans HX1.out) ho); clear ho)))
    all_goals
      go_wp2_with fail
      go_ret
      rw [HACT1.out]
      exact ⟨rfl, HF.out⟩
end Go.Proofs.YtlikhmhomkiadaaGreatDoor

namespace Go.Proofs.YtlikhmhomkiadaaGreatDoor
set_option maxRecDepth 100000
open Go

def walkB : Nat → Nat → Nat → Bool
  | 0, _, _ => true
  | m + 1, b, r => walk1 b r && (match stps b r with
    | 0 => false
    | q + 1 => walkB m b (q + 1))
theorem walkB_get {m b r : Nat} (h : walkB m b r = true) (j : Nat) (hj : j < m * b) : stps j r ≠ 1 := by
  induction m generalizing r j with
  | zero => omega
  | succ m ih =>
    simp only [walkB, Bool.and_eq_true] at h
    by_cases hb : j < b
    · exact walk1_get h.1 j hb
    · have h2 := h.2
      have e : stps j r = stps (j - b) (stps b r) := by rw [← stps_add, show b + (j - b) = j by omega]
      rw [e]
      split at h2
      · cases h2
      · rename_i q hq
        rw [hq]
        exact ih h2 (j - b) (by rw [Nat.succ_mul] at hj; omega)
set_option maxRecDepth 100000 in
theorem walk_all : walkB 120 100 (stp 1) = true := by decide +kernel
theorem ord_ne {d : Nat} (h0 : 0 < d) (h : d ≤ 12000) : stps d 1 ≠ 1 := by
  have := walkB_get walk_all (d - 1) (by omega)
  rw [show d = 1 + (d - 1) by omega, stps_add]
  exact this
theorem bit_inj {m p q : Nat} (hm : m ≤ 12000) (hp : p < m) (hq : q < m) (h : stps (m - p) 1 = stps (m - q) 1) : p = q := by
  rcases Nat.lt_trichotomy p q with hlt | heq | hlt
  · exfalso
    rw [show m - p = (q - p) + (m - q) by omega, stps_add] at h
    exact ord_ne (show 0 < q - p by omega) (by omega) (stps_inj (stps_lt (by omega)) (by omega) h)
  · exact heq
  · exfalso
    rw [show m - q = (p - q) + (m - p) by omega, stps_add] at h
    exact ord_ne (show 0 < p - q by omega) (by omega) (stps_inj (stps_lt (by omega)) (by omega) h.symm)

def flips : List Nat → List Nat → List Nat
  | l, [] => l
  | l, p :: ps => flips (flipB l p) ps
theorem flips_snoc (l : List Nat) (ps : List Nat) (p : Nat) : flips l (ps ++ [p]) = flipB (flips l ps) p := by
  induction ps generalizing l with
  | nil => rfl
  | cons q ps ih => exact ih _
theorem flips_length (l ps : List Nat) : (flips l ps).length = l.length := by
  induction ps generalizing l with
  | nil => rfl
  | cons p ps ih => rw [flips, ih, flipB_length]
theorem flips_lt {l : List Nat} (ps : List Nat) (hl : ∀ x ∈ l, x < 256) : ∀ x ∈ flips l ps, x < 256 := by
  induction ps generalizing l with
  | nil => exact hl
  | cons p ps ih => exact ih (flipB_lt p hl)
theorem few_ne {l ps : List Nat} (hl : ∀ x ∈ l, x < 256) (hn : 8 * l.length ≤ 12000) (hps : ps.length ≤ 3) (hp : ∀ p ∈ ps, p < 8 * l.length) (he : crcS l = crcS (flips l ps)) : l = flips l ps := by
  have h1 : (1 : Nat) < 4294967296 := by omega
  match ps, hps, hp, he with
  | [], _, _, _ => rfl
  | [p], _, hp, he =>
    exfalso
    have := crcS_diff hl (flips_lt [p] hl) (flipB_feed _ (hp p (by simp))) he
    have := stps_nz h1 this
    omega
  | [p, q], _, hp, he =>
    have e : feed 4294967295 (flips l [p, q]) = feed 4294967295 l ^^^ (stps (8 * l.length - p) 1 ^^^ stps (8 * l.length - q) 1) := by
      simp only [flips]
      rw [flipB_feed _ (by rw [flipB_length]; exact hp q (by simp)), flipB_feed _ (hp p (by simp)), flipB_length, Nat.xor_assoc]
    have h2 := xor_eq_zero' (crcS_diff hl (flips_lt [p, q] hl) e he)
    have h3 := bit_inj hn (hp p (by simp)) (hp q (by simp)) h2
    subst h3
    simp only [flips]
    rw [flipB_twice]
  | [p, q, r], _, hp, he =>
    exfalso
    have e : feed 4294967295 (flips l [p, q, r]) = feed 4294967295 l ^^^ (stps (8 * l.length - p) 1 ^^^ stps (8 * l.length - q) 1 ^^^ stps (8 * l.length - r) 1) := by
      simp only [flips]
      rw [flipB_feed _ (by rw [flipB_length, flipB_length]; exact hp r (by simp)), flipB_feed _ (by rw [flipB_length]; exact hp q (by simp)), flipB_feed _ (hp p (by simp))]
      simp only [flipB_length]
      ac_rfl
    have h2 := crcS_diff hl (flips_lt [p, q, r] hl) e he
    have h3 := congrArg par h2
    rw [par_xor, par_xor, par_stps h1, par_stps h1, par_stps h1, show par 1 = 1 by decide, show par 0 = 0 by decide] at h3
    omega
end Go.Proofs.YtlikhmhomkiadaaGreatDoor

namespace Go.Proofs.YtlikhmhomkiadaaGreatDoor
set_option maxRecDepth 100000
open Go

/-- Of bytes of 64 or 128: the tag, the length, the noughts, the sum, each by itself. -/
def padOf (l : List Nat) : List Nat := (l.drop (17 + bodyN l)).take (l.length - 21 - bodyN l)
def sumOf (l : List Nat) : List Nat := l.drop (l.length - 4)
theorem room_le_of {l : List Nat} (hs : l.length = 64 ∨ l.length = 128) (h : bodyN l ≤ roomN ((l.length / 64 : Nat) : Int)) : bodyN l + 21 ≤ l.length ∧ l.length / 64 * 64 = l.length := by
  rcases hs with h64 | h64
  · rw [h64] at h ⊢
    rw [show roomN ((64 / 64 : Nat) : Int) = 43 from rfl] at h
    omega
  · rw [h64] at h ⊢
    rw [show roomN ((128 / 64 : Nat) : Int) = 88 from rfl] at h
    omega
theorem take_end {l : List Nat} {n : Nat} (h : n + 21 ≤ l.length) : l.take (l.length - 4) = l.take 2 ++ (l.drop 2).take 15 ++ (l.drop 17).take n ++ (l.drop (17 + n)).take (l.length - 21 - n) := by
  have e1 : l.length - 4 = 2 + (15 + (n + (l.length - 21 - n))) := by omega
  rw [e1, List.take_add, List.take_add, List.take_add, List.drop_drop, List.drop_drop, ← List.append_assoc, ← List.append_assoc]
theorem good_of_parts {l : List Nat} (hl : ∀ b ∈ l, b < 256) (hs : l.length = 64 ∨ l.length = 128) (hp : PV (tagOf l) = true) (hn : bodyN l ≤ roomN ((l.length / 64 : Nat) : Int)) (hz : zeroB (padOf l) = true) (hc : sumOf l = digs 4 (crcS (l.take (l.length - 4)))) : goodB l = true := by
  obtain ⟨hroom, hdiv⟩ := room_le_of hs hn
  have hbl : (bodyOf l).length = bodyN l := by unfold bodyOf; rw [List.length_take, List.length_drop]; omega
  have h2 : digs 2 (bodyOf l).length = l.take 2 := by
    rw [hbl]
    have e := digs_num (l.take 2) (fun b hb => hl b (List.mem_of_mem_take hb))
    rw [List.length_take, Nat.min_eq_left (by omega)] at e
    exact e
  have hpad : List.replicate (64 * (l.length / 64) - 21 - (bodyOf l).length) 0 = (l.drop (17 + bodyN l)).take (l.length - 21 - bodyN l) := by
    rw [hbl, Nat.mul_comm 64, hdiv]
    symm
    refine List.eq_replicate_iff.2 ⟨by rw [List.length_take, List.length_drop]; omega, fun x hx => ?_⟩
    have := List.all_eq_true.1 hz x hx
    simpa using this
  have hh : frameH (bodyOf l) (tagOf l) (l.length / 64) = l.take (l.length - 4) := by
    rw [take_end hroom]
    unfold frameH
    rw [h2, hpad]
    rfl
  have hf : frameL (bodyOf l) (tagOf l) (l.length / 64) = l := by
    unfold frameL
    rw [hh, ← hc]
    exact List.take_append_drop _ _
  unfold goodB szB
  rw [hp, hf]
  simp only [hn, decide_true, Bool.and_true]
  rcases hs with h | h <;> simp [h]
theorem parts_of_good {l : List Nat} (h : goodB l = true) : zeroB (padOf l) = true ∧ sumOf l = digs 4 (crcS (l.take (l.length - 4))) := by
  obtain ⟨hs, hp, hn, hf⟩ := good_parts h
  obtain ⟨hroom, hdiv⟩ := room_le_of hs hn
  have hbl : (bodyOf l).length = bodyN l := by unfold bodyOf; rw [List.length_take, List.length_drop]; omega
  have hol : (tagOf l).length = 15 := by unfold tagOf; rw [List.length_take, List.length_drop]; omega
  have hS : 1 ≤ l.length / 64 := by omega
  have hHl : (frameH (bodyOf l) (tagOf l) (l.length / 64)).length = l.length - 4 := by
    rw [frameH_len hol (by omega) hS]; omega
  have ht : l.take (l.length - 4) = frameH (bodyOf l) (tagOf l) (l.length / 64) := by
    have e : l.take (l.length - 4) = (frameL (bodyOf l) (tagOf l) (l.length / 64)).take (l.length - 4) := congrArg (List.take (l.length - 4)) hf
    rw [e, frameL, List.take_append_of_le_length (by omega), List.take_of_length_le (by omega)]
  have hd : l.drop (l.length - 4) = digs 4 (crcS (frameH (bodyOf l) (tagOf l) (l.length / 64))) := by
    have e : l.drop (l.length - 4) = (frameL (bodyOf l) (tagOf l) (l.length / 64)).drop (l.length - 4) := congrArg (List.drop (l.length - 4)) hf
    rw [e, frameL, List.drop_left' hHl]
  refine ⟨?_, ?_⟩
  · have hx := take_end hroom
    rw [ht] at hx
    unfold frameH at hx
    have hlen2 : (digs 2 (bodyOf l).length ++ tagOf l ++ bodyOf l).length = (l.take 2 ++ (l.drop 2).take 15 ++ (l.drop 17).take (bodyN l)).length := by
      simp only [List.length_append, digs_length, hol, hbl, List.length_take, List.length_drop]
      omega
    have hpe := (List.append_inj hx hlen2).2
    refine List.all_eq_true.2 fun x hx => ?_
    have : x ∈ List.replicate (64 * (l.length / 64) - 21 - (bodyOf l).length) 0 := by rw [hpe]; exact hx
    have := (List.mem_replicate.1 this).2
    simp [this]
  · unfold sumOf
    rw [hd, ht]
/-- The sum as a number. -/
theorem sum_num {l : List Nat} (hl : ∀ b ∈ l, b < 256) (h4 : 4 ≤ l.length) (s : Nat) (hs : s < 4294967296) : sumOf l = digs 4 s ↔ num (sumOf l) = s := by
  have hlen : (sumOf l).length = 4 := by unfold sumOf; rw [List.length_drop]; omega
  constructor
  · intro h
    rw [h, num_digs 4 s (by simpa using hs)]
  · intro h
    have e := digs_num (sumOf l) (fun b hb => hl b (List.mem_of_mem_drop hb))
    rw [hlen, h] at e
    exact e.symm

/-- Up to three bits that are turned about: good just if nothing is changed. -/
theorem spoilt {l ps : List Nat} (hg : goodB l = true) (hl : ∀ x ∈ l, x < 256) (hps : ps.length ≤ 3) (hp : ∀ p ∈ ps, p < 8 * l.length) : goodB (flips l ps) = decide (l = flips l ps) := by
  by_cases h : l = flips l ps
  · rw [decide_eq_true h, ← h]
    exact hg
  · rw [decide_eq_false h]
    by_cases hg2 : goodB (flips l ps) = true
    · obtain ⟨hs, _⟩ := good_parts hg
      exact absurd (few_ne hl (by omega) hps hp (good_same hg hg2 hl (flips_lt ps hl))) h
    · simpa using hg2
/-- Some bits within 32: never good. -/
theorem near_bad {l : List Nat} {p w : Nat} (hg : goodB l = true) (hl : ∀ x ∈ l, x < 256) (hp : p + 32 ≤ 8 * l.length) (hw : w < 4294967296) (h0 : w ≠ 0) : goodB (flipN l p w 32) = false := by
  by_cases hg2 : goodB (flipN l p w 32) = true
  · exact absurd (good_same hg hg2 hl (flipN_lt p w 32 hl)) (near_ne hl hp hw h0)
  · simpa using hg2
/-- Bytes of another length are never good. -/
theorem good_size {l : List Nat} (h : l.length ≠ 64) (h' : l.length ≠ 128) : goodB l = false := by
  unfold goodB szB
  simp [h, h']
end Go.Proofs.YtlikhmhomkiadaaGreatDoor

namespace Go.Proofs.YtlikhmhomkiadaaGreatDoor
set_option maxRecDepth 100000
open Go Go.RowKit

theorem By.sub {w : World} {g o n c : Nat} {l : List Nat} (h : By w (some ⟨g, o, none⟩) n c l) (i k c' : Nat) (hk : i + k ≤ n) (hc : k ≤ c') (hm : c' ≤ 9223372036854775807) : By w (some ⟨g, o + i, none⟩) k c' ((l.drop i).take k) :=
  ⟨by rw [List.length_take, List.length_drop, h.len]; omega, hc, hm, (h.rd.drop rfl i).take k, fun hh => by cases hh⟩

/-- What parts answers: the tag's numbers, the body; none where the tag isn't valid or the body is longer than the bytes. -/
def okB (l : List Nat) : Bool := PV (tagOf l) && decide (17 + bodyN l ≤ l.length)
def qf (l : List Nat) (k : Nat) : Nat := if okB l = true then pf (tagOf l) k else 0
def ql (l : List Nat) : List Nat := if okB l = true then bodyOf l else []
theorem qf_yes {l : List Nat} (h : okB l = true) (k : Nat) : qf l k = pf (tagOf l) k := by unfold qf; rw [if_pos h]
theorem qf_no {l : List Nat} (h : okB l = false) (k : Nat) : qf l k = 0 := by unfold qf; rw [if_neg (by rw [h]; simp)]
theorem ql_yes {l : List Nat} (h : okB l = true) : ql l = bodyOf l := by unfold ql; rw [if_pos h]
theorem ql_no {l : List Nat} (h : okB l = false) : ql l = [] := by unfold ql; rw [if_neg (by rw [h]; simp)]
theorem okB_PV {l : List Nat} (h : PV (tagOf l) = false) : okB l = false := by unfold okB; rw [h]; rfl
theorem okB_long {l : List Nat} (h : l.length < 17 + bodyN l) : okB l = false := by
  unfold okB
  rw [decide_eq_false (by omega), Bool.and_false]
theorem okB_yes {l : List Nat} (hp : PV (tagOf l) = true) (h : 17 + bodyN l ≤ l.length) : okB l = true := by
  unfold okB
  rw [hp, decide_eq_true h]
  rfl

/-- What Open answers: the state, the tag's numbers, the body. -/
def stN (l : List Nat) : Nat := if szB l = true then (if zeroB l = true then 0 else if goodB l = true then 1 else 2) else 2
def ofl (l : List Nat) (k : Nat) : Nat := if goodB l = true then pf (tagOf l) k else 0
def obl (l : List Nat) : List Nat := if goodB l = true then bodyOf l else []
theorem ofl_yes {l : List Nat} (h : goodB l = true) (k : Nat) : ofl l k = pf (tagOf l) k := by unfold ofl; rw [if_pos h]
theorem ofl_no {l : List Nat} (h : goodB l = false) (k : Nat) : ofl l k = 0 := by unfold ofl; rw [if_neg (by rw [h]; simp)]
theorem obl_yes {l : List Nat} (h : goodB l = true) : obl l = bodyOf l := by unfold obl; rw [if_pos h]
theorem obl_no {l : List Nat} (h : goodB l = false) : obl l = [] := by unfold obl; rw [if_neg (by rw [h]; simp)]
theorem good_sz {l : List Nat} (h : goodB l = true) : szB l = true := by
  unfold goodB at h
  simp only [Bool.and_eq_true] at h
  exact h.1.1.1
theorem szB_iff {l : List Nat} : szB l = true ↔ l.length = 64 ∨ l.length = 128 := by
  unfold szB
  simp
theorem stN_good {l : List Nat} (h : goodB l = true) : stN l = 1 := by
  unfold stN
  rw [if_pos (good_sz h), if_neg (by rw [good_not_zero h]; simp), if_pos h]
theorem stN_blank {l : List Nat} (hs : szB l = true) (h : zeroB l = true) : stN l = 0 := by unfold stN; rw [if_pos hs, if_pos h]
theorem stN_size {l : List Nat} (h : szB l = false) : stN l = 2 := by unfold stN; rw [if_neg (by rw [h]; simp)]
theorem stN_bad {l : List Nat} (hz : zeroB l = false) (h : goodB l = false) : stN l = 2 := by
  unfold stN
  rw [if_neg (show ¬ zeroB l = true by rw [hz]; simp), if_neg (show ¬ goodB l = true by rw [h]; simp)]
  split <;> rfl
theorem size_bad {l : List Nat} (h : szB l = false) : goodB l = false := by
  unfold goodB
  rw [h]
  rfl
theorem zero_bad {l : List Nat} (h : zeroB l = true) : goodB l = false := by
  by_cases hg : goodB l = true
  · rw [good_not_zero hg] at h; cases h
  · simpa using hg
theorem stN_one {l : List Nat} : stN l = 1 ↔ goodB l = true := by
  constructor
  · intro h
    by_cases hg : goodB l = true
    · exact hg
    · have hg' : goodB l = false := by simpa using hg
      unfold stN at h
      rw [if_neg hg] at h
      split at h
      · split at h <;> cases h
      · cases h
  · exact stN_good
theorem room_ws {l : List Nat} (h : szB l = false) : roomN ((wsN l.length : Nat) : Int) = 0 := by
  have hs : ¬ (l.length = 64 ∨ l.length = 128) := fun hh => by rw [szB_iff.2 hh] at h; cases h
  unfold wsN
  by_cases hm : l.length % 64 = 0
  · rw [if_pos hm]
    exact roomN_no (by omega) (by omega)
  · rw [if_neg hm]
    exact roomN_no (by omega) (by omega)
theorem ws_div {l : List Nat} (h : szB l = true) : wsN l.length = l.length / 64 := by
  unfold wsN
  rw [szB_iff] at h
  rw [if_pos (by omega)]
theorem room_pos {l : List Nat} (h : szB l = true) : roomN ((l.length / 64 : Nat) : Int) ≠ 0 := by
  rw [szB_iff] at h
  rcases h with h | h
  · rw [h]; decide
  · rw [h]; decide
theorem good_okB {l : List Nat} (h : goodB l = true) : okB l = true := by
  obtain ⟨hs, hp, hn, _⟩ := good_parts h
  have := room_le_of hs hn
  exact okB_yes hp (by omega)
theorem may_pf {l : List Nat} (h : PV l = true) : mayB (pf l 0) (pf l 1) (pf l 2) (pf l 3) (pf l 4) = true := by
  rw [pf_yes h, pf_yes h, pf_yes h, pf_yes h, pf_yes h]
  unfold PV at h
  simp only [Bool.and_eq_true] at h
  exact h.2
theorem tagOf_lt {l : List Nat} (hl : ∀ b ∈ l, b < 256) : ∀ b ∈ tagOf l, b < 256 := fun x hx => hl x (List.mem_of_mem_drop (List.mem_of_mem_take hx))
theorem bodyOf_len {l : List Nat} (h : 17 + bodyN l ≤ l.length) : (bodyOf l).length = bodyN l := by unfold bodyOf; rw [List.length_take, List.length_drop]; omega
theorem okB_parts {l : List Nat} (h : okB l = true) : PV (tagOf l) = true ∧ 17 + bodyN l ≤ l.length := by
  unfold okB at h
  simpa using h

/-- The parts, sealed once more, tell the good ones. -/
def reE (l : List Nat) : Int := sealE (qf l 0) (qf l 1) (qf l 2) (qf l 3) (qf l 4) (ql l).length ((l.length / 64 : Nat) : Int)
def reL (l : List Nat) : List Nat := sealL (qf l 0) (qf l 1) (qf l 2) (qf l 3) (qf l 4) (ql l) ((l.length / 64 : Nat) : Int)
theorem re_no {l : List Nat} (hs : szB l = true) (h : reE l ≠ 0) : goodB l = false := by
  by_cases hg : goodB l = true
  · refine absurd ?_ h
    have ho := good_okB hg
    obtain ⟨hp, hn⟩ := okB_parts ho
    unfold reE
    rw [qf_yes ho, qf_yes ho, qf_yes ho, qf_yes ho, qf_yes ho, ql_yes ho]
    exact sealE_yes (room_pos hs) (may_pf hp) (by rw [bodyOf_len hn]; exact (good_parts hg).2.2.1)
  · simpa using hg
theorem re_yes {l : List Nat} (hs : szB l = true) (hl : ∀ b ∈ l, b < 256) (h : reE l = 0) : goodB l = decide (reL l = l) := by
  have hr := room_pos hs
  by_cases ho : okB l = true
  · obtain ⟨hp, hn⟩ := okB_parts ho
    unfold reE at h
    rw [qf_yes ho, qf_yes ho, qf_yes ho, qf_yes ho, qf_yes ho, ql_yes ho, bodyOf_len hn] at h
    have hroom : bodyN l ≤ roomN ((l.length / 64 : Nat) : Int) := by
      rcases Nat.lt_or_ge (roomN ((l.length / 64 : Nat) : Int)) (bodyN l) with h1 | h1
      · rw [sealE_long hr (may_pf hp) h1] at h; cases h
      · exact h1
    have hL : reL l = frameL (bodyOf l) (tagOf l) (l.length / 64) := by
      unfold reL
      rw [qf_yes ho, qf_yes ho, qf_yes ho, qf_yes ho, qf_yes ho, ql_yes ho, sealL_yes (by rw [bodyOf_len hn]; exact h), (pl_of hp (tagOf_lt hl)).1, Int.toNat_natCast]
    rw [hL]
    unfold goodB
    rw [hs, hp, decide_eq_true hroom, Bool.true_and, Bool.true_and, Bool.true_and]
    by_cases he : l = frameL (bodyOf l) (tagOf l) (l.length / 64)
    · rw [decide_eq_true he, decide_eq_true he.symm]
    · rw [decide_eq_false he, decide_eq_false fun hh => he hh.symm]
  · have ho' : okB l = false := by simpa using ho
    unfold reE at h
    rw [qf_no ho', qf_no ho', qf_no ho', qf_no ho', qf_no ho', sealE_arg (.inr (by decide))] at h
    cases h
end Go.Proofs.YtlikhmhomkiadaaGreatDoor
