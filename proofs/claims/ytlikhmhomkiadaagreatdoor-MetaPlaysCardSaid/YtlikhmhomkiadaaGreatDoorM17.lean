/-
  The contract of the statements' Do: an act at the program's disk.
  The contract of the statements' Same: an act at the document's disk; the document's disk since a world.
  Which powers of x are 1: none up to 12,000; so two bits of a row are told apart.
  Plain facts on frames: which checks tell the good ones; bits that are turned about.
  Plain facts on what Open answers, told by what Seal answers; and a piece of a slice of bytes.
  A tag that is stored into a block of its own: what the block holds then, and what stays.
-/
import Derived.Test.YtlikhmhomkiadaaGreatDoorM01
import Derived.Test.YtlikhmhomkiadaaGreatDoorM07
import Derived.Test.YtlikhmhomkiadaaGreatDoorM11
import Derived.Test.YtlikhmhomkiadaaGreatDoorM15
import Derived.Test.YtlikhmhomkiadaaGreatDoorM16
import Derived.Laws.OwnMore
namespace Go.Proofs.YtlikhmhomkiadaaGreatDoor
set_option maxRecDepth 100000
open Go Go.RowKit

theorem PDisk.wide {w : World} {d : Nat} {F G : Nat → Prop} {m : DM} (h : PDisk w d F m) (hF : ∀ k, F k → G k) (hG : ∀ k, G k → k < w.heap.size) : PDisk w d G m := by
  obtain ⟨g, pv, h1, h2, _⟩ := h
  exact ⟨g, pv, h1, fun k hk => hF k (h2 k hk), hG⟩
theorem Off.mono {F G : Nat → Prop} {A : Option Addr} (h : Off G A) (hF : ∀ k, F k → G k) : Off F A := fun p hp hf => h p hp (hF _ hf)
/-- Behind steps that wrote none of its blocks, and one that was the disk's: the whole call's. -/
theorem outc_of {w w1 w2 w3 : World} {d : Nat} {F : Nat → Prop} {m' : DM} (hF : ∀ k, F k → k < w.heap.size) (h1 : Ext w w1) (h2 : PDisk w2 d (grow F w1 w2) m') (h3 : Mod F w1 w2) (h4 : Mod (fun k => w.heap.size ≤ k ∧ k < w1.heap.size) w2 w3) : PDisk w3 d (grow F w w3) m' ∧ Mod F w w3 := by
  refine ⟨(h2.mod h4 fun i hi hl => ?_).wide (fun k hk => ?_) (fun k hk => ?_), ((Mod.of_ext h1).then h3).trans h4 fun i hi => .inr hi.1⟩
  · rcases hi with hi | hi
    · have := hF i hi; omega
    · omega
  · rcases hk with hk | hk
    · exact .inl hk
    · exact .inr ⟨Nat.le_trans h1.size hk.1, Nat.lt_of_lt_of_le hk.2 h4.size⟩
  · rcases hk with hk | hk
    · exact Nat.lt_of_lt_of_le (hF k hk) (Nat.le_trans h1.size (Nat.le_trans h3.size h4.size))
    · exact hk.2
theorem Act5.Ok.ext {a : Act5} {w w' : World} (h : a.Ok w w.heap.size) (k : Ext w w') : a.Ok w' w'.heap.size := (h.below k).more k.size

/-- What an act does, by the rest of its kind. -/
def actR (m : DM) (r : Nat) (sec num : Int) (bl : List Nat) (kl : List Bool) : Int × DM :=
  match r with
  | 0 => m.flush
  | 1 => m.crash kl
  | 2 => m.start
  | 3 => m.flip sec num
  | 4 => m.lose sec
  | 5 => m.stray sec num
  | 8 => m.setPower num
  | _ => m.write sec (actB num bl)
theorem act_actR (m : DM) (kind r : Nat) (h : kind % 9 = r) (sec num : Int) (bl : List Nat) (kl : List Bool) : m.act kind sec num bl kl = actR m r sec num bl kl := by
  subst h
  rfl
set_option maxRecDepth 100000 in
set_option maxHeartbeats 6400000 in
theorem do_of {w : World} {d : Nat} {F : Nat → Prop} {m : DM} (h : PDisk w d F m) (a : Act5) (ha : a.Ok w w.heap.size) (hk : 0 < a.kn → Off F a.kA) (hn : a.bn ≤ 140737488355328) (hfew : m.waits.length ≤ 1000000) :
    Calls Tryz.prog 38 #[.pointer (some ⟨d, 0, none⟩), actV a] w (Outc d F w (m.act a.kind a.sec a.num a.bl a.kl).1 (m.act a.kind a.sec a.num a.bl a.kl).2) := by
  unfold actV
  have hE := (Ext.refl w).alloc (.cells #[.int .u8 (a.kind : Int), .int .i64 a.sec, .int .i64 a.num, .slice a.bA a.bn a.bc, .slice a.kA a.kn a.kc] 37)
  have H := Lib.hid (h.ext hE)
  have HFL := Lib.hid h.lt
  have HA := Lib.hid (ha.ext hE)
  have HK := Lib.hid hk
  have HE := Lib.hid hE
  have hnum : a.num ≤ 9223372036854775807 := (bounds_i64 ha.num).2
  have HNUM := Lib.hid hnum
  obtain ⟨r, hr⟩ : ∃ r, a.kind % 9 = r := ⟨_, rfl⟩
  have hr9 : r < 9 := by omega
  have hrm : ((a.kind : Nat) : Int).tmod 9 = (r : Int) := by rw [Int.tmod_eq_emod_of_nonneg (by omega)]; omega
  have HACT := Lib.hid (act_actR m a.kind r hr a.sec a.num a.bl a.kl)
  clear h ha hk hE hr hnum
  have fin : ∀ (E : Int) (m' : DM) (w2 : World), m.act a.kind a.sec a.num a.bl a.kl = (E, m') → PDisk w2 d (grow F (w.alloc (.cells #[.int .u8 (a.kind : Int), .int .i64 a.sec, .int .i64 a.num, .slice a.bA a.bn a.bc, .slice a.kA a.kn a.kc] 37)) w2) m' → Mod F (w.alloc (.cells #[.int .u8 (a.kind : Int), .int .i64 a.sec, .int .i64 a.num, .slice a.bA a.bn a.bc, .slice a.kA a.kn a.kc] 37)) w2 →
      Outc d F w (m.act a.kind a.sec a.num a.bl a.kl).1 (m.act a.kind a.sec a.num a.bl a.kl).2 (.returned (.int .i64 E)) w2 := fun E m' w2 he hp hm => by
    have := outc_of HFL.out HE.out hp hm (Mod.refl _ _)
    rw [he]
    exact ⟨rfl, this.1, this.2⟩
  have HFIN := Lib.hid fin
  clear fin
  have hcases : r = 0 ∨ r = 1 ∨ r = 2 ∨ r = 3 ∨ r = 4 ∨ r = 5 ∨ r = 8 ∨ (r = 6 ∨ r = 7) := by omega
  rcases hcases with e | e | e | e | e | e | e | e
  · subst e
    go_enter Tryz.func38, Tryz.ntmps38
    go_wp2_with fail
    refine (flush_pd H.out).mono ?_
    rintro e w2 ⟨rfl, hp, hm⟩
    have hfin := HFIN.out _ _ w2 HACT.out hp hm
    have HF := Lib.hid hfin
    clear hfin hp hm
    go_wp2_with fail
    go_ret
    exact HF.out
  · subst e
    go_enter Tryz.func38, Tryz.ntmps38
    go_wp2_with fail
    refine (crash_pd H.out a.kA a.kn a.kc a.kl HA.out.keep HK.out).mono ?_
    rintro e w2 ⟨rfl, hp, hm⟩
    have hfin := HFIN.out _ _ w2 HACT.out hp hm
    have HF := Lib.hid hfin
    clear hfin hp hm
    go_wp2_with fail
    go_ret
    exact HF.out
  · subst e
    go_enter Tryz.func38, Tryz.ntmps38
    go_wp2_with fail
    refine (start_pd H.out).mono ?_
    rintro e w2 ⟨rfl, hp, hm⟩
    have hfin := HFIN.out _ _ w2 HACT.out hp hm
    have HF := Lib.hid hfin
    clear hfin hp hm
    go_wp2_with fail
    go_ret
    exact HF.out
  · subst e
    go_enter Tryz.func38, Tryz.ntmps38
    go_wp2_with fail
    refine (flip_pd H.out a.sec a.num HNUM.out).mono ?_
    rintro e w2 ⟨rfl, hp, hm⟩
    have hfin := HFIN.out _ _ w2 HACT.out hp hm
    have HF := Lib.hid hfin
    clear hfin hp hm
    go_wp2_with fail
    go_ret
    exact HF.out
  · subst e
    go_enter Tryz.func38, Tryz.ntmps38
    go_wp2_with fail
    refine (lose_pd H.out a.sec).mono ?_
    rintro e w2 ⟨rfl, hp, hm⟩
    have hfin := HFIN.out _ _ w2 HACT.out hp hm
    have HF := Lib.hid hfin
    clear hfin hp hm
    go_wp2_with fail
    go_ret
    exact HF.out
  · subst e
    go_enter Tryz.func38, Tryz.ntmps38
    go_wp2_with fail
    refine (stray_pd H.out a.sec a.num).mono ?_
    rintro e w2 ⟨rfl, hp, hm⟩
    have hfin := HFIN.out _ _ w2 HACT.out hp hm
    have HF := Lib.hid hfin
    clear hfin hp hm
    go_wp2_with fail
    go_ret
    exact HF.out
  · subst e
    go_enter Tryz.func38, Tryz.ntmps38
    go_wp2_with fail
    refine (power_pd H.out a.num HNUM.out).mono ?_
    rintro e w2 ⟨rfl, hp, hm⟩
    have hfin := HFIN.out _ _ w2 HACT.out hp hm
    have HF := Lib.hid hfin
    clear hfin hp hm
    go_wp2_with fail
    go_ret
    exact HF.out
  · have HACT1 : Hid (m.act a.kind a.sec a.num a.bl a.kl = m.write a.sec (actB a.num a.bl)) := Lib.hid (by
      rw [HACT.out]
      rcases e with rfl | rfl <;> rfl)
    have g0 : ((r : Int) == 0) = false := by rw [beq_eq_false_iff_ne]; omega
    have g1 : ((r : Int) == 1) = false := by rw [beq_eq_false_iff_ne]; omega
    have g2 : ((r : Int) == 2) = false := by rw [beq_eq_false_iff_ne]; omega
    have g3 : ((r : Int) == 3) = false := by rw [beq_eq_false_iff_ne]; omega
    have g4 : ((r : Int) == 4) = false := by rw [beq_eq_false_iff_ne]; omega
    have g5 : ((r : Int) == 5) = false := by rw [beq_eq_false_iff_ne]; omega
    have g8 : ((r : Int) == 8) = false := by rw [beq_eq_false_iff_ne]; omega
    clear HACT e
    go_enter Tryz.func38, Tryz.ntmps38
    go_wp2_with fail
    refine (sector_of a _ HA.out hn).mono ?_
    rintro e w1 ⟨A, n, c, rfl, hown, hx⟩
    have hrow := heap_alloc_new w (.cells #[.int .u8 (a.kind : Int), .int .i64 a.sec, .int .i64 a.num, .slice a.bA a.bn a.bc, .slice a.kA a.kn a.kc] 37)
    have hc1 := cell_of_row w1 _ 1 _ _ _ ((hx.block _ (Array.getElem?_eq_some_iff.1 hrow).1).trans hrow)
    have hsz1 : w.heap.size + 1 ≤ w1.heap.size := by have := hx.size; simpa using this
    have hbs := Bs.of_own hown (actB_lt HA.out.bytes.rd.lt)
    have hfresh : ∀ g, (Value.slice A n c).ownBlock = some g → w.heap.size + 1 ≤ g ∧ g < w1.heap.size := fun g hg => by
      have := hown.lt g hg
      simpa using this
    have HOW := Lib.hid hown
    have HX := Lib.hid hx
    have HFR := Lib.hid hfresh
    have HBS := Lib.hid hbs
    have H1 := Lib.hid (H.out.ext hx)
    have hoff : Off F A := fun p hp hf => by
      subst hp
      have := (hfresh p.block rfl).1
      have := HFL.out _ hf
      omega
    have HOFF := Lib.hid hoff
    clear hown hx hbs hfresh hrow hoff
    go_wp2_with fail
    refine (write_pd H1.out a.sec A n c (actB a.num a.bl) HBS.out HOFF.out hfew).mono ?_
    rintro e w2 ⟨rfl, hp, hm⟩
    have hown2 : w2.ownsRow (w.heap.size + 1) 5 1 (.slice A n c) n (vb (actB a.num a.bl)) := own_base5 (own_mod HOW.out hm fun i hi hf => by
      have := (HFR.out i hi).1
      have := HFL.out _ hf
      omega) (by simp)
    have HP2 := Lib.hid hp
    have HM2 := Lib.hid hm
    have HO2 := Lib.hid hown2
    have HB0 : Hid (∀ x ∈ actB a.num a.bl, x < 256) := Lib.hid (actB_lt HA.out.bytes.rd.lt)
    have hcap := (Bs.cap HBS.out)
    have hmost := (Bs.most HBS.out)
    clear hp hm hown2 hc1
    go_wp2_with fail
    go_loopw [7] (fun i wr => ∃ k : Nat, k ≤ n ∧ i = .int .i64 k ∧ (∃ l : List Nat, (∀ x ∈ l, x < 256) ∧ Hid (wr.ownsRow (w.heap.size + 1) 5 1 (.slice A n c) n (vb l))) ∧ Hid (Mod (fun k => w.heap.size ≤ k ∧ k < w1.heap.size) w2 wr)) (fun i _ => n - (intOf i).toNat)
    case atStart => exact ⟨0, Nat.zero_le _, rfl, ⟨_, HB0.out, HO2⟩, Lib.hid (Mod.refl _ _)⟩
    case round =>
      obtain ⟨k, hk, rfl, ⟨l, hl, HO⟩, HM⟩ := hrel
      by_cases hlt : k < n
      · obtain ⟨g, cap, hv⟩ := Go.Joins.ownsRow_form HO.out (by omega)
        injection hv with hA _ hc
        subst hA; subst hc
        have hll : l.length = n := by
          have := HO.out.1
          rwa [vb_length, Nat.mul_one] at this
        obtain ⟨x, hx⟩ : ∃ x, l[k]? = some x := ⟨_, List.getElem?_eq_getElem (by omega)⟩
        have hcx : wr.cell? ⟨g, k, none⟩ = some (.int .u8 (x : Int)) := by
          rw [HO.out.cellAt k (by omega), vb_get, hx]
          rfl
        have hfz := HO.out.frozenAt k
        have hx2 : x < 256 := hl x (List.mem_of_getElem? hx)
        obtain ⟨y, hy⟩ : ∃ y : Nat, IntKind.u8.wrap ((x : Int) + 1) = (y : Int) := ⟨((x + 1) % 256), by rw [IntKind.wrap_u8]; omega⟩
        have hy2 : y < 256 := by rw [IntKind.wrap_u8] at hy; omega
        have hgf := HFR.out g rfl
        have HL := Lib.hid hl
        clear hx hl hll
        go_wp2_with fail
        go_roundw
        case rel =>
          refine ⟨k + 1, by omega, by go_num, ⟨l.set k y, fun z hz => ?_, Lib.hid ?_⟩, Lib.hid (HM.out.setCell (p := ⟨g, k, none⟩) (.inl ⟨by show w.heap.size ≤ g; omega, hgf.2⟩) _)⟩
          · rcases List.mem_or_eq_of_mem_set hz with h | h
            · exact HL.out z h
            · rw [h]; exact hy2
          · have hs := (HO.out.stored k (.int .u8 (y : Int))).1
            rw [show (vb l).set k (.int .u8 (y : Int)) = vb (l.set k y) by unfold vb; rw [List.map_set]] at hs
            exact hs
        case measure => simp [intOf]; omega
      · go_wp2_with fail
        go_ret
        have ho := outc_of (w1 := w1) HFL.out (HE.out.trans HX.out) HP2.out HM2.out HM.out
        rw [HACT1.out]
        exact ⟨rfl, ho.1, ho.2⟩
end Go.Proofs.YtlikhmhomkiadaaGreatDoor

namespace Go.Proofs.YtlikhmhomkiadaaGreatDoor
set_option maxRecDepth 100000
open Go Go.RowKit

theorem RD.ext {w w' : World} {d : Nat} {p : Nat → Nat} {m : DM} (h : RD w d p m) (k : Ext w w') : RD w' d p m := by
  obtain ⟨⟨q, hq⟩, hlt⟩ := h
  exact ⟨⟨q, hq.ext k⟩, fun i hi => Nat.lt_of_lt_of_le (hlt i hi) k.size⟩
theorem RD.mod {w w' : World} {d : Nat} {p : Nat → Nat} {m : DM} {F : Nat → Prop} (h : RD w d p m) (k : Mod F w w') (hF : ∀ i, p i ≠ 0 → ¬ F i) : RD w' d p m := by
  obtain ⟨⟨q, hq⟩, hlt⟩ := h
  exact ⟨⟨q, hq.mod k hF⟩, fun i hi => Nat.lt_of_lt_of_le (hlt i hi) k.size⟩
theorem ROut.from {w w1 w2 : World} {d : Nat} {p : Nat → Nat} {m' : DM} (h : Ext w w1) (k : ROut d p w1 m' w2) : ROut d p w m' w2 := by
  obtain ⟨p', h1, h2, h3⟩ := k
  exact ⟨p', h1, (Mod.of_ext h).trans h2 fun i hi => .inl hi, fun i hi => (h3 i hi).imp id fun e => Nat.le_trans h.size e⟩
theorem keep5 {u w' : World} {g : Nat} {x0 x1 x2 x3 x4 : Value} {t : TypeId} {G : Nat → Prop} (k : Hid (Mod G u w')) (hg : Hid (¬ G g)) (h : Hid (u.heap[g]? = some (.cells #[x0, x1, x2, x3, x4] t (0, 0)))) :
    w'.cell? ⟨g, 0, none⟩ = some x0 ∧ w'.cell? ⟨g, 1, none⟩ = some x1 ∧ w'.cell? ⟨g, 2, none⟩ = some x2 ∧ w'.cell? ⟨g, 3, none⟩ = some x3 ∧ w'.cell? ⟨g, 4, none⟩ = some x4 := by
  have h2 := heap_mod h.out k.out hg.out
  exact ⟨cell_of_row w' g 0 _ _ _ h2, cell_of_row w' g 1 _ _ _ h2, cell_of_row w' g 2 _ _ _ h2, cell_of_row w' g 3 _ _ _ h2, cell_of_row w' g 4 _ _ _ h2⟩

theorem off_new {V w1 : World} {A : Option Addr} {n c : Nat} {xs : List Value} {p : Nat → Nat} (h : w1.ownsRow V.heap.size 5 1 (.slice A n c) n xs) (hp : ∀ i, p i ≠ 0 → i < V.heap.size) : ¬ ∃ g o, A = some ⟨g, o, none⟩ ∧ p g ≠ 0 := by
  rintro ⟨g, o, rfl, hg⟩
  rcases h.2 with ⟨e, _⟩ | ⟨g2, cap, cur, e, hb, _⟩
  · injection e with e1 _ _
    cases e1
  · injection e with e1 _ _
    injection e1 with e1
    injection e1 with e1 _
    subst e1
    exact absurd (hp _ hg) (by omega)
theorem rout_mod {w w2 : World} {d : Nat} {p : Nat → Nat} {m' : DM} (k : ROut d p w m' w2) : Mod (fun i => p i ≠ 0) w w2 := by
  obtain ⟨_, _, h, _⟩ := k
  exact h
set_option maxRecDepth 100000 in
set_option maxHeartbeats 6400000 in
theorem rsame_of {w : World} {d : Nat} {p : Nat → Nat} {m : DM} (h : RD w d p m) (a : Act5) (ha : a.Ok w w.heap.size) (hk : 0 < a.kn → Off (fun i => p i ≠ 0) a.kA) (hn : a.bn ≤ 200) (hfew : m.waits.length ≤ 1000000) :
    Calls Tryz.prog 43 #[.pointer (some ⟨d, 0, none⟩), .agg #[.int .u8 (a.kind : Int), .int .i64 a.sec, .int .i64 a.num, .slice a.bA a.bn a.bc, .slice a.kA a.kn a.kc]] w fun e w' => e = .returned (.int .i64 (m.act a.kind a.sec a.num a.bl a.kl).1) ∧ ROut d p w (m.act a.kind a.sec a.num a.bl a.kl).2 w' := by
  have hE := (Ext.refl w).alloc (.cells #[.int .u8 (a.kind : Int), .int .i64 a.sec, .int .i64 a.num, .slice a.bA a.bn a.bc, .slice a.kA a.kn a.kc] 37)
  have hrow := heap_alloc_new w (.cells #[.int .u8 (a.kind : Int), .int .i64 a.sec, .int .i64 a.num, .slice a.bA a.bn a.bc, .slice a.kA a.kn a.kc] 37)
  have H := Lib.hid (h.ext hE)
  have HLT := Lib.hid h.2
  have HA := Lib.hid (ha.ext hE)
  have HK := Lib.hid hk
  have HE := Lib.hid hE
  have HROW := Lib.hid hrow
  have hnum : a.num ≤ 9223372036854775807 := (bounds_i64 ha.num).2
  have HNUM := Lib.hid hnum
  obtain ⟨r, hr⟩ : ∃ r, a.kind % 9 = r := ⟨_, rfl⟩
  have hr9 : r < 9 := by omega
  have hrm : ((a.kind : Nat) : Int).tmod 9 = (r : Int) := by rw [Int.tmod_eq_emod_of_nonneg (by omega)]; omega
  have HACT := Lib.hid (act_actR m a.kind r hr a.sec a.num a.bl a.kl)
  clear h ha hk hE hr hnum hrow
  have hcases : r = 0 ∨ r = 1 ∨ r = 2 ∨ r = 3 ∨ r = 4 ∨ r = 5 ∨ r = 8 ∨ (r = 6 ∨ r = 7) := by omega
  rcases hcases with e | e | e | e | e | e | e | e
  · subst e
    go_enter Tryz.func43, Tryz.ntmps43
    go_wp2_with fail
    refine (rflush_out H.out hfew).mono ?_
    rintro e w2 ⟨rfl, ho⟩
    have HF := Lib.hid (ROut.from HE.out ho)
    clear ho
    go_wp2_with fail
    go_ret
    rw [HACT.out]
    exact ⟨rfl, HF.out⟩
  · subst e
    go_enter Tryz.func43, Tryz.ntmps43
    go_wp2_with fail
    refine (rcrash_out H.out hfew a.kA a.kn a.kc a.kl HA.out.keep HK.out).mono ?_
    rintro e w2 ⟨rfl, ho⟩
    have HF := Lib.hid (ROut.from HE.out ho)
    clear ho
    go_wp2_with fail
    go_ret
    rw [HACT.out]
    exact ⟨rfl, HF.out⟩
  · subst e
    go_enter Tryz.func43, Tryz.ntmps43
    go_wp2_with fail
    refine (rstart_out H.out).mono ?_
    rintro e w2 ⟨rfl, ho⟩
    have HF := Lib.hid (ROut.from HE.out ho)
    clear ho
    go_wp2_with fail
    go_ret
    rw [HACT.out]
    exact ⟨rfl, HF.out⟩
  · subst e
    go_enter Tryz.func43, Tryz.ntmps43
    go_wp2_with fail
    refine (rflip_out H.out a.sec a.num HNUM.out).mono ?_
    rintro e w2 ⟨rfl, ho⟩
    have HF := Lib.hid (ROut.from HE.out ho)
    clear ho
    go_wp2_with fail
    go_ret
    rw [HACT.out]
    exact ⟨rfl, HF.out⟩
  · subst e
    go_enter Tryz.func43, Tryz.ntmps43
    go_wp2_with fail
    refine (rlose_out H.out a.sec).mono ?_
    rintro e w2 ⟨rfl, ho⟩
    have HF := Lib.hid (ROut.from HE.out ho)
    clear ho
    go_wp2_with fail
    go_ret
    rw [HACT.out]
    exact ⟨rfl, HF.out⟩
  · subst e
    go_enter Tryz.func43, Tryz.ntmps43
    go_wp2_with fail
    refine (rstray_out H.out a.sec a.num).mono ?_
    rintro e w2 ⟨rfl, ho⟩
    have HF := Lib.hid (ROut.from HE.out ho)
    clear ho
    go_wp2_with fail
    go_ret
    rw [HACT.out]
    exact ⟨rfl, HF.out⟩
  · subst e
    go_enter Tryz.func43, Tryz.ntmps43
    go_wp2_with fail
    refine (rpower_out H.out a.num HNUM.out).mono ?_
    rintro e w2 ⟨rfl, ho⟩
    have HF := Lib.hid (ROut.from HE.out ho)
    clear ho
    go_wp2_with fail
    go_ret
    rw [HACT.out]
    exact ⟨rfl, HF.out⟩
  · have HACT1 : Hid (m.act a.kind a.sec a.num a.bl a.kl = m.write a.sec (actB a.num a.bl)) := Lib.hid (by
      rw [HACT.out]
      rcases e with rfl | rfl <;> rfl)
    have g0 : ((r : Int) == 0) = false := by rw [beq_eq_false_iff_ne]; omega
    have g1 : ((r : Int) == 1) = false := by rw [beq_eq_false_iff_ne]; omega
    have g2 : ((r : Int) == 2) = false := by rw [beq_eq_false_iff_ne]; omega
    have g3 : ((r : Int) == 3) = false := by rw [beq_eq_false_iff_ne]; omega
    have g4 : ((r : Int) == 4) = false := by rw [beq_eq_false_iff_ne]; omega
    have g5 : ((r : Int) == 5) = false := by rw [beq_eq_false_iff_ne]; omega
    have g8 : ((r : Int) == 8) = false := by rw [beq_eq_false_iff_ne]; omega
    obtain ⟨V, hV⟩ : ∃ V, w.alloc (.cells #[.int .u8 (a.kind : Int), .int .i64 a.sec, .int .i64 a.num, .slice a.bA a.bn a.bc, .slice a.kA a.kn a.kc] 37) = V := ⟨_, rfl⟩
    have hVs : V.heap.size = w.heap.size + 1 := by rw [← hV]; simp
    rw [hV] at H HA HE HROW
    have HG : Hid (¬ (fun i => p i ≠ 0) w.heap.size) := Lib.hid fun h => absurd (HLT.out _ h) (by omega)
    have HRd : Hid (V.drew.heap[w.heap.size]? = _) := HROW
    have HM0 : Hid (Mod (fun i => p i ≠ 0) V.drew V.drew) := Lib.hid (Mod.refl _ _)
    have HAd := Lib.hid (HA.out.ext (Ext.refl V).drew)
    have HDd := Lib.hid (H.out.ext (Ext.refl V).drew)
    obtain ⟨c0, c1, c2, c3, c4⟩ := keep5 HM0 HG HRd
    have hc0 := cell_of_row V w.heap.size 0 _ _ _ HROW.out
    have HVS := Lib.hid hVs
    have HSEC : Hid (Calls Tryz.prog 92 #[.agg #[.int .u8 (a.kind : Int), .int .i64 a.sec, .int .i64 a.num, .slice a.bA a.bn a.bc, .slice a.kA a.kn a.kc]] V.drew fun e w' => ∃ A n c, e = .returned (.slice A n c) ∧ w'.ownsRow V.drew.heap.size 5 1 (.slice A n c) n (vb (actB a.num a.bl)) ∧ Ext V.drew w') := Lib.hid (sector_of a _ HAd.out (by omega))
    clear HACT e HROW H HA
    go_enter Tryz.func43, Tryz.ntmps43
    go_wp2_with fail
    go_region_held3 (fun w' => w'.cell? ⟨w.heap.size, 0, none⟩ = some (.int .u8 (a.kind : Int)) ∧ w'.cell? ⟨w.heap.size, 1, none⟩ = some (.int .i64 a.sec) ∧ w'.cell? ⟨w.heap.size, 2, none⟩ = some (.int .i64 a.num) ∧ w'.cell? ⟨w.heap.size, 3, none⟩ = some (.slice a.bA a.bn a.bc) ∧ w'.cell? ⟨w.heap.size, 4, none⟩ = some (.slice a.kA a.kn a.kc))
      (first | exact keep5 (by assumption) HG HRd)
      (first
        | (go_at_call 92; ((with_reducible refine HSEC.out.mono ?_); rintro e w1 ⟨A, n, c, rfl, hown, hx⟩; have HM1 : Hid (Mod (fun i => p i ≠ 0) V.drew w1) := Lib.hid (Mod.of_ext hx); have HX1 := Lib.hid hx; have HD1 := Lib.hid (HDd.out.ext hx); have HB1 : Hid (By w1 A n c (actB a.num a.bl)) := Lib.hid (Bs.of_own hown (actB_lt HAd.out.bytes.rd.lt)); have HO1 := Lib.hid (off_new hown (fun i hi => by have := HLT.out i hi; have h2 := HVS.out; show i < V.heap.size; omega)); clear hown hx))
        | (go_at_call 44; ((with_reducible refine (rwrite_out HD1.out a.sec A n c (actB a.num a.bl) HB1.out HO1.out hfew).mono ?_); rintro e w2 ⟨rfl, ho⟩; have HM2 : Hid (Mod (fun i => p i ≠ 0) V.drew w2) := Lib.hid (HM1.out.trans (rout_mod ho) fun i hi => .inl hi); have HF := Lib.hid (ROut.from (((HE.out.trans (Ext.refl V).drew)).trans HX1.out) ho); clear ho)))
    all_goals
      go_wp2_with fail
      go_ret
      rw [HACT1.out]
      exact ⟨rfl, HF.out⟩
end Go.Proofs.YtlikhmhomkiadaaGreatDoor

namespace Go.Proofs.YtlikhmhomkiadaaGreatDoor
set_option maxRecDepth 100000
open Go

end Go.Proofs.YtlikhmhomkiadaaGreatDoor

namespace Go.Proofs.YtlikhmhomkiadaaGreatDoor
set_option maxRecDepth 100000
open Go

theorem room_le_of {l : List Nat} (hs : l.length = 64 ∨ l.length = 128) (h : bodyN l ≤ roomN ((l.length / 64 : Nat) : Int)) : bodyN l + 21 ≤ l.length ∧ l.length / 64 * 64 = l.length := by
  rcases hs with h64 | h64
  · rw [h64] at h ⊢
    rw [show roomN ((64 / 64 : Nat) : Int) = 43 from rfl] at h
    omega
  · rw [h64] at h ⊢
    rw [show roomN ((128 / 64 : Nat) : Int) = 88 from rfl] at h
    omega
end Go.Proofs.YtlikhmhomkiadaaGreatDoor

namespace Go.Proofs.YtlikhmhomkiadaaGreatDoor
set_option maxRecDepth 100000
open Go Go.RowKit

theorem By.sub {w : World} {g o n c : Nat} {l : List Nat} (h : By w (some ⟨g, o, none⟩) n c l) (i k c' : Nat) (hk : i + k ≤ n) (hc : k ≤ c') (hm : c' ≤ 9223372036854775807) : By w (some ⟨g, o + i, none⟩) k c' ((l.drop i).take k) :=
  ⟨by rw [List.length_take, List.length_drop, h.len]; omega, hc, hm, (h.rd.drop rfl i).take k, fun hh => by cases hh⟩

/-- What parts answers: the tag's numbers, the body; none where the tag isn't valid or the body is longer than the bytes. -/
def okB (l : List Nat) : Bool := PV (tagOf l) && decide (17 + bodyN l ≤ l.length)
def qf (l : List Nat) (k : Nat) : Nat := if okB l = true then pf (tagOf l) k else 0
def ql (l : List Nat) : List Nat := if okB l = true then bodyOf l else []
theorem qf_yes {l : List Nat} (h : okB l = true) (k : Nat) : qf l k = pf (tagOf l) k := by unfold qf; rw [if_pos h]
theorem qf_no {l : List Nat} (h : okB l = false) (k : Nat) : qf l k = 0 := by unfold qf; rw [if_neg (by rw [h]; simp)]
theorem ql_yes {l : List Nat} (h : okB l = true) : ql l = bodyOf l := by unfold ql; rw [if_pos h]
theorem ql_no {l : List Nat} (h : okB l = false) : ql l = [] := by unfold ql; rw [if_neg (by rw [h]; simp)]
theorem okB_PV {l : List Nat} (h : PV (tagOf l) = false) : okB l = false := by unfold okB; rw [h]; rfl
theorem okB_long {l : List Nat} (h : l.length < 17 + bodyN l) : okB l = false := by
  unfold okB
  rw [decide_eq_false (by omega), Bool.and_false]
theorem okB_yes {l : List Nat} (hp : PV (tagOf l) = true) (h : 17 + bodyN l ≤ l.length) : okB l = true := by
  unfold okB
  rw [hp, decide_eq_true h]
  rfl

/-- What Open answers: the state, the tag's numbers, the body. -/
def stN (l : List Nat) : Nat := if szB l = true then (if zeroB l = true then 0 else if goodB l = true then 1 else 2) else 2
def ofl (l : List Nat) (k : Nat) : Nat := if goodB l = true then pf (tagOf l) k else 0
def obl (l : List Nat) : List Nat := if goodB l = true then bodyOf l else []
theorem ofl_yes {l : List Nat} (h : goodB l = true) (k : Nat) : ofl l k = pf (tagOf l) k := by unfold ofl; rw [if_pos h]
theorem ofl_no {l : List Nat} (h : goodB l = false) (k : Nat) : ofl l k = 0 := by unfold ofl; rw [if_neg (by rw [h]; simp)]
theorem obl_yes {l : List Nat} (h : goodB l = true) : obl l = bodyOf l := by unfold obl; rw [if_pos h]
theorem obl_no {l : List Nat} (h : goodB l = false) : obl l = [] := by unfold obl; rw [if_neg (by rw [h]; simp)]
theorem good_sz {l : List Nat} (h : goodB l = true) : szB l = true := by
  unfold goodB at h
  simp only [Bool.and_eq_true] at h
  exact h.1.1.1
theorem szB_iff {l : List Nat} : szB l = true ↔ l.length = 64 ∨ l.length = 128 := by
  unfold szB
  simp
theorem stN_good {l : List Nat} (h : goodB l = true) : stN l = 1 := by
  unfold stN
  rw [if_pos (good_sz h), if_neg (by rw [good_not_zero h]; simp), if_pos h]
theorem stN_blank {l : List Nat} (hs : szB l = true) (h : zeroB l = true) : stN l = 0 := by unfold stN; rw [if_pos hs, if_pos h]
theorem stN_size {l : List Nat} (h : szB l = false) : stN l = 2 := by unfold stN; rw [if_neg (by rw [h]; simp)]
theorem stN_bad {l : List Nat} (hz : zeroB l = false) (h : goodB l = false) : stN l = 2 := by
  unfold stN
  rw [if_neg (show ¬ zeroB l = true by rw [hz]; simp), if_neg (show ¬ goodB l = true by rw [h]; simp)]
  split <;> rfl
theorem size_bad {l : List Nat} (h : szB l = false) : goodB l = false := by
  unfold goodB
  rw [h]
  rfl
theorem zero_bad {l : List Nat} (h : zeroB l = true) : goodB l = false := by
  by_cases hg : goodB l = true
  · rw [good_not_zero hg] at h; cases h
  · simpa using hg
theorem stN_one {l : List Nat} : stN l = 1 ↔ goodB l = true := by
  constructor
  · intro h
    by_cases hg : goodB l = true
    · exact hg
    · have hg' : goodB l = false := by simpa using hg
      unfold stN at h
      rw [if_neg hg] at h
      split at h
      · split at h <;> cases h
      · cases h
  · exact stN_good
theorem room_ws {l : List Nat} (h : szB l = false) : roomN ((wsN l.length : Nat) : Int) = 0 := by
  have hs : ¬ (l.length = 64 ∨ l.length = 128) := fun hh => by rw [szB_iff.2 hh] at h; cases h
  unfold wsN
  by_cases hm : l.length % 64 = 0
  · rw [if_pos hm]
    exact roomN_no (by omega) (by omega)
  · rw [if_neg hm]
    exact roomN_no (by omega) (by omega)
theorem ws_div {l : List Nat} (h : szB l = true) : wsN l.length = l.length / 64 := by
  unfold wsN
  rw [szB_iff] at h
  rw [if_pos (by omega)]
theorem room_pos {l : List Nat} (h : szB l = true) : roomN ((l.length / 64 : Nat) : Int) ≠ 0 := by
  rw [szB_iff] at h
  rcases h with h | h
  · rw [h]; decide
  · rw [h]; decide
theorem good_okB {l : List Nat} (h : goodB l = true) : okB l = true := by
  obtain ⟨hs, hp, hn, _⟩ := good_parts h
  have := room_le_of hs hn
  exact okB_yes hp (by omega)
theorem may_pf {l : List Nat} (h : PV l = true) : mayB (pf l 0) (pf l 1) (pf l 2) (pf l 3) (pf l 4) = true := by
  rw [pf_yes h, pf_yes h, pf_yes h, pf_yes h, pf_yes h]
  unfold PV at h
  simp only [Bool.and_eq_true] at h
  exact h.2
theorem tagOf_lt {l : List Nat} (hl : ∀ b ∈ l, b < 256) : ∀ b ∈ tagOf l, b < 256 := fun x hx => hl x (List.mem_of_mem_drop (List.mem_of_mem_take hx))
theorem bodyOf_len {l : List Nat} (h : 17 + bodyN l ≤ l.length) : (bodyOf l).length = bodyN l := by unfold bodyOf; rw [List.length_take, List.length_drop]; omega
theorem okB_parts {l : List Nat} (h : okB l = true) : PV (tagOf l) = true ∧ 17 + bodyN l ≤ l.length := by
  unfold okB at h
  simpa using h

/-- The parts, sealed once more, tell the good ones. -/
def reE (l : List Nat) : Int := sealE (qf l 0) (qf l 1) (qf l 2) (qf l 3) (qf l 4) (ql l).length ((l.length / 64 : Nat) : Int)
def reL (l : List Nat) : List Nat := sealL (qf l 0) (qf l 1) (qf l 2) (qf l 3) (qf l 4) (ql l) ((l.length / 64 : Nat) : Int)
theorem re_no {l : List Nat} (hs : szB l = true) (h : reE l ≠ 0) : goodB l = false := by
  by_cases hg : goodB l = true
  · refine absurd ?_ h
    have ho := good_okB hg
    obtain ⟨hp, hn⟩ := okB_parts ho
    unfold reE
    rw [qf_yes ho, qf_yes ho, qf_yes ho, qf_yes ho, qf_yes ho, ql_yes ho]
    exact sealE_yes (room_pos hs) (may_pf hp) (by rw [bodyOf_len hn]; exact (good_parts hg).2.2.1)
  · simpa using hg
theorem re_yes {l : List Nat} (hs : szB l = true) (hl : ∀ b ∈ l, b < 256) (h : reE l = 0) : goodB l = decide (reL l = l) := by
  have hr := room_pos hs
  by_cases ho : okB l = true
  · obtain ⟨hp, hn⟩ := okB_parts ho
    unfold reE at h
    rw [qf_yes ho, qf_yes ho, qf_yes ho, qf_yes ho, qf_yes ho, ql_yes ho, bodyOf_len hn] at h
    have hroom : bodyN l ≤ roomN ((l.length / 64 : Nat) : Int) := by
      rcases Nat.lt_or_ge (roomN ((l.length / 64 : Nat) : Int)) (bodyN l) with h1 | h1
      · rw [sealE_long hr (may_pf hp) h1] at h; cases h
      · exact h1
    have hL : reL l = frameL (bodyOf l) (tagOf l) (l.length / 64) := by
      unfold reL
      rw [qf_yes ho, qf_yes ho, qf_yes ho, qf_yes ho, qf_yes ho, ql_yes ho, sealL_yes (by rw [bodyOf_len hn]; exact h), (pl_of hp (tagOf_lt hl)).1, Int.toNat_natCast]
    rw [hL]
    unfold goodB
    rw [hs, hp, decide_eq_true hroom, Bool.true_and, Bool.true_and, Bool.true_and]
    by_cases he : l = frameL (bodyOf l) (tagOf l) (l.length / 64)
    · rw [decide_eq_true he, decide_eq_true he.symm]
    · rw [decide_eq_false he, decide_eq_false fun hh => he hh.symm]
  · have ho' : okB l = false := by simpa using ho
    unfold reE at h
    rw [qf_no ho', qf_no ho', qf_no ho', qf_no ho', qf_no ho', sealE_arg (.inr (by decide))] at h
    cases h
end Go.Proofs.YtlikhmhomkiadaaGreatDoor

namespace Go.Proofs.YtlikhmhomkiadaaGreatDoor
set_option maxRecDepth 100000
open Go Go.RowKit

theorem five_far {w : World} {g h k : Nat} (hne : g ≠ h) (x0 x1 x2 x3 x4 : Value) :
    (((((w.setCell ⟨g, 0, none⟩ x0).setCell ⟨g, 1, none⟩ x1).setCell ⟨g, 2, none⟩ x2).setCell ⟨g, 3, none⟩ x3).setCell ⟨g, 4, none⟩ x4).cell? ⟨h, k, none⟩ = w.cell? ⟨h, k, none⟩ := by
  rw [World.cell?_setCell_far _ ⟨g, 4, none⟩ ⟨h, k, none⟩ _ hne, World.cell?_setCell_far _ ⟨g, 3, none⟩ ⟨h, k, none⟩ _ hne, World.cell?_setCell_far _ ⟨g, 2, none⟩ ⟨h, k, none⟩ _ hne, World.cell?_setCell_far _ ⟨g, 1, none⟩ ⟨h, k, none⟩ _ hne, World.cell?_setCell_far _ ⟨g, 0, none⟩ ⟨h, k, none⟩ _ hne]
theorem five_far_drew {w : World} {g h k : Nat} {v : Value} (hne : g ≠ h) (hc : w.cell? ⟨h, k, none⟩ = some v) (x0 x1 x2 x3 x4 : Value) :
    (((((w.setCell ⟨g, 0, none⟩ x0).setCell ⟨g, 1, none⟩ x1).setCell ⟨g, 2, none⟩ x2).setCell ⟨g, 3, none⟩ x3).setCell ⟨g, 4, none⟩ x4).drew.cell? ⟨h, k, none⟩ = some v := by
  have e : ∀ W : World, W.drew.cell? ⟨h, k, none⟩ = W.cell? ⟨h, k, none⟩ := fun _ => rfl
  rw [e, five_far hne]
  exact hc
theorem row_step {w : World} {g t : Nat} {fr : Nat × Nat} {cs cs' : Array Value} (i : Nat) (h : w.heap[g]? = some (.cells cs t fr)) (x : Value) (e : cs.setIfInBounds i x = cs') : (w.setCell ⟨g, i, none⟩ x).heap[g]? = some (.cells cs' t fr) := by
  subst e
  rw [setCell_eq_setRow w g i cs t fr x h]
  exact setRow_heap w g _ _ _ _ h
theorem five_row {w : World} {g t : Nat} {y0 y1 y2 y3 y4 : Value} (h : w.heap[g]? = some (.cells #[y0, y1, y2, y3, y4] t (0, 0))) (x0 x1 x2 x3 x4 : Value) :
    (((((w.setCell ⟨g, 0, none⟩ x0).setCell ⟨g, 1, none⟩ x1).setCell ⟨g, 2, none⟩ x2).setCell ⟨g, 3, none⟩ x3).setCell ⟨g, 4, none⟩ x4).heap[g]? = some (.cells #[x0, x1, x2, x3, x4] t (0, 0)) := by
  exact row_step 4 (row_step 3 (row_step 2 (row_step 1 (row_step 0 h x0 rfl) x1 rfl) x2 rfl) x3 rfl) x4 rfl
theorem five_near_drew {w : World} {g : Nat} {y0 y1 y2 y3 y4 : Value} (h : w.heap[g]? = some (.cells #[y0, y1, y2, y3, y4] 33 (0, 0))) (x0 x1 x2 x3 x4 : Value) :
    (((((w.setCell ⟨g, 0, none⟩ x0).setCell ⟨g, 1, none⟩ x1).setCell ⟨g, 2, none⟩ x2).setCell ⟨g, 3, none⟩ x3).setCell ⟨g, 4, none⟩ x4).drew.cell? ⟨g, 0, none⟩ = some x0 ∧
    (((((w.setCell ⟨g, 0, none⟩ x0).setCell ⟨g, 1, none⟩ x1).setCell ⟨g, 2, none⟩ x2).setCell ⟨g, 3, none⟩ x3).setCell ⟨g, 4, none⟩ x4).drew.cell? ⟨g, 1, none⟩ = some x1 ∧
    (((((w.setCell ⟨g, 0, none⟩ x0).setCell ⟨g, 1, none⟩ x1).setCell ⟨g, 2, none⟩ x2).setCell ⟨g, 3, none⟩ x3).setCell ⟨g, 4, none⟩ x4).drew.cell? ⟨g, 2, none⟩ = some x2 ∧
    (((((w.setCell ⟨g, 0, none⟩ x0).setCell ⟨g, 1, none⟩ x1).setCell ⟨g, 2, none⟩ x2).setCell ⟨g, 3, none⟩ x3).setCell ⟨g, 4, none⟩ x4).drew.cell? ⟨g, 3, none⟩ = some x3 ∧
    (((((w.setCell ⟨g, 0, none⟩ x0).setCell ⟨g, 1, none⟩ x1).setCell ⟨g, 2, none⟩ x2).setCell ⟨g, 3, none⟩ x3).setCell ⟨g, 4, none⟩ x4).drew.cell? ⟨g, 4, none⟩ = some x4 := by
  have e : ∀ (W : World) k, W.drew.cell? ⟨g, k, none⟩ = W.cell? ⟨g, k, none⟩ := fun _ _ => rfl
  rw [e, e, e, e, e]
  exact (five_cells (five_row h x0 x1 x2 x3 x4)).1
theorem set_block {w : World} {g h k : Nat} {x : Value} {o : Obj} (hne : g ≠ h) (hh : w.heap[h]? = some o) (hg : ∃ cs t fr, w.heap[g]? = some (.cells cs t fr)) : (w.setCell ⟨g, k, none⟩ x).heap[h]? = some o := by
  obtain ⟨cs, t, fr, hr⟩ := hg
  rw [setCell_eq_setRow w g k cs t fr x hr]
  exact (setRow_other w _ _ _ (fun e => hne e.symm)).trans hh
theorem five_block {w : World} {g h t : Nat} {y0 y1 y2 y3 y4 : Value} {o : Obj} (hne : g ≠ h) (hg : w.heap[g]? = some (.cells #[y0, y1, y2, y3, y4] t (0, 0))) (hh : w.heap[h]? = some o) (x0 x1 x2 x3 x4 : Value) :
    (((((w.setCell ⟨g, 0, none⟩ x0).setCell ⟨g, 1, none⟩ x1).setCell ⟨g, 2, none⟩ x2).setCell ⟨g, 3, none⟩ x3).setCell ⟨g, 4, none⟩ x4).heap[h]? = some o := by
  have step : ∀ (W : World) (k : Nat) (x : Value), (∃ cs t fr, W.heap[g]? = some (.cells cs t fr)) → W.heap[h]? = some o → (∃ cs t fr, (W.setCell ⟨g, k, none⟩ x).heap[g]? = some (.cells cs t fr)) ∧ (W.setCell ⟨g, k, none⟩ x).heap[h]? = some o := by
    intro W k x hr hW
    refine ⟨?_, set_block hne hW hr⟩
    obtain ⟨cs, t, fr, hr⟩ := hr
    rw [setCell_eq_setRow W g k cs t fr x hr]
    exact ⟨_, _, _, setRow_heap W _ _ _ _ _ hr⟩
  obtain ⟨a0, b0⟩ := step w 0 x0 ⟨_, _, _, hg⟩ hh
  obtain ⟨a1, b1⟩ := step _ 1 x1 a0 b0
  obtain ⟨a2, b2⟩ := step _ 2 x2 a1 b1
  obtain ⟨a3, b3⟩ := step _ 3 x3 a2 b2
  exact (step _ 4 x4 a3 b3).2
end Go.Proofs.YtlikhmhomkiadaaGreatDoor
