/-
  The contracts of the document's shelf's Chunk, Bytes, Hurt.
-/
import Derived.Test.YtmpaocpgoihliaaGreatDoorP00
import Derived.Test.YtmpaocpgoihliaaGreatDoorP06
import Derived.Test.YtmpaocpgoihliaaGreatDoorP08
import Derived.Test.YtmpaocpgoihliaaGreatDoorP11
import Derived.Test.YtmpaocpgoihliaaGreatDoorP12
import Derived.Test.YtmpaocpgoihliaaGreatDoorP13
import Derived.Test.YtmpaocpgoihliaaGreatDoorP15
import Derived.Test.YtmpaocpgoihliaaGreatDoorP17
import Derived.Test.YtmpaocpgoihliaaGreatDoorP28
import Derived.RangeFuncWrites
import Derived.RangeFuncNested
import Derived.RangeFuncGives
import Derived.Maps.AppendAt
import Derived.Deep.DeepCutAuto
import Derived.RangeFuncBound
import Derived.RangeFuncBox
import Derived.RangeFuncCalls
import Derived.RangeFuncLeaves
import Derived.Shelf.Abstract
import Derived.Shelf.RegionOpen
import Derived.WalkKit
import Derived.OwnWalkIn
import Derived.TacticsInMore
import Derived.LoopNIn
import Derived.LoopIn
import Derived.Laws.EntriesVeiled
import Derived.Deep.RegionHeld
namespace Go.Proofs.YtmpaocpgoihliaaGreatDoor
set_option maxRecDepth 100000
section
open Go Go.RowKit
theorem int_infoS : (Tryz.prog.info? 3).map (fun i => (i.zero, i.size, i.bytes)) = some (some (.int .i64 0), 1, 8) := by kernel_rfl
section
variable {w : World} {y d : Nat} {r inc : Int} {s : ShM} {q : Nat → Nat} {m : DM}
set_option maxHeartbeats 1600000 in
theorem rschunk_of (h : RShAt w y d r inc s) (hd : RD w d q m) (hct : s.ct ≤ 8) (har : s.ar ≤ 1) (k : Int) (hfew : m.waits.length ≤ 1000000) :
 Calls Tryz.prog 97 #[.pointer (some ⟨y, 0, none⟩), .int .i64 k] w fun e w' => ∃ A N c, e = .returned (.tuple #[.slice A N c, .int .i64 (m.chunkE r s k)]) ∧ By w' A N c (m.chunkO r s k) ∧ Ext w w' := by
 obtain ⟨_, _, _, _, _, c5⟩ := h.cells
 have HDN := Lib.hid (rsdown_of h hd)
 by_cases hin : 0 ≤ k ∧ k < (s.ct : Int)
 case neg =>
  have he : m.chunkE r s k = 2 := by unfold DM.chunkE; rw [if_pos hin]
  have ho : m.chunkO r s k = [] := by unfold DM.chunkO; rw [if_neg (by rw [he]; omega)]
  rw [he, ho]
  generalize (s.ct : Int) = ct at *
  clear he ho h hd hct
  by_cases hk : k < 0
  ·clear hin
   go_enter Tryz.func97, Tryz.ntmps97
   go_wp2_with fail
   refine bodyPost_ret (v := .tuple #[.slice none 0 0, .int .i64 2]) (by simp [results, Tryz.results97, go_sem]) rfl ?_
   exact ⟨none, 0, 0, rfl, By.nil_ _, Ext.refl _⟩
  ·have hk0 : 0 ≤ k := by omega
   have hk1 : ct ≤ k := by omega
   clear hin hk
   go_enter Tryz.func97, Tryz.ntmps97
   go_wp2_with fail
   refine bodyPost_ret (v := .tuple #[.slice none 0 0, .int .i64 2]) (by simp [results, Tryz.results97, go_sem]) rfl ?_
   exact ⟨none, 0, 0, rfl, By.nil_ _, Ext.refl _⟩
 obtain ⟨hk0, hk1⟩ := hin
 cases hup : m.up with
 | false =>
  have he : m.chunkE r s k = 5 := by unfold DM.chunkE; rw [if_neg (fun x => x ⟨hk0, hk1⟩), if_pos hup]
  have ho : m.chunkO r s k = [] := by unfold DM.chunkO; rw [if_neg (by rw [he]; omega)]
  rw [he, ho]
  rw [hup] at HDN
  clear he ho hup h hd har hfew
  go_enter Tryz.func97, Tryz.ntmps97
  go_wp2_with fail
  refine HDN.out.mono ?_
  rintro e w1 ⟨rfl, rfl⟩
  go_wp2_with fail
  refine bodyPost_ret (v := .tuple #[.slice none 0 0, .int .i64 5]) (by simp [results, Tryz.results97, go_sem]) rfl ?_
  exact ⟨none, 0, 0, rfl, By.nil_ _, Ext.refl _⟩
 | true =>
  obtain ⟨n, rfl⟩ : ∃ n : Nat, k = (n : Int) := ⟨k.toNat, by omega⟩
  have he : m.chunkE r s (n : Int) = (if m.chB r s n = true then 0 else 130) := by unfold DM.chunkE; rw [if_neg (fun x => x ⟨hk0, hk1⟩), if_neg (by rw [hup]; simp), Int.toNat_natCast]
  have ho : m.chunkO r s (n : Int) = m.chL r s n := by
   unfold DM.chunkO
   rw [he, Int.toNat_natCast]
   cases hb : m.chB r s n with
   | true => simp
   | false =>
    have : m.chL r s n = [] := by
     unfold DM.chB at hb
     unfold DM.chL bytC
     rw [if_neg (by rw [hb]; simp)]
    simp [this]
  have hr := rsread_of h hd hct har n (by omega) hfew
  rw [he, ho]
  rw [hup] at HDN
  unfold RReadY at hr
  have hno : m.chB r s n = false → m.chL r s n = [] := fun hb => by
   unfold DM.chB at hb
   unfold DM.chL bytC
   rw [if_neg (by rw [hb]; simp)]
  have HNO := Lib.hid hno
  clear he ho hup h hd har hfew hno
  cases hb : m.chB r s n with
  | true =>
   rw [hb] at hr
   have HR := Lib.hid hr
   clear hb hr
   go_enter Tryz.func97, Tryz.ntmps97
   go_wp2_with fail
   refine HDN.out.mono ?_
   rintro e w1 ⟨rfl, rfl⟩
   go_wp2_with fail
   refine HR.out.mono ?_
   rintro e w2 ⟨A2, n2, c2, rfl, hby, hx⟩
   have HB := Lib.hid hby
   have HX := Lib.hid hx
   clear hby hx
   go_wp2_with fail
   refine bodyPost_ret (v := .tuple #[.slice A2 n2 c2, .int .i64 0]) (by simp [results, Tryz.results97, go_sem]) rfl ?_
   exact ⟨A2, n2, c2, rfl, HB.out, HX.out⟩
  | false =>
   rw [hb] at hr
   have HR := Lib.hid hr
   have HN := Lib.hid (HNO.out hb)
   clear hb hr
   go_enter Tryz.func97, Tryz.ntmps97
   go_wp2_with fail
   refine HDN.out.mono ?_
   rintro e w1 ⟨rfl, rfl⟩
   go_wp2_with fail
   refine HR.out.mono ?_
   rintro e w2 ⟨A2, n2, c2, rfl, hby, hx⟩
   have HX := Lib.hid hx
   clear hby hx
   go_wp2_with fail
   refine bodyPost_ret (v := .tuple #[.slice none 0 0, .int .i64 130]) (by simp [results, Tryz.results97, go_sem]) rfl ?_
   exact ⟨none, 0, 0, rfl, by rw [HN.out]; exact By.nil_ _, HX.out⟩
set_option maxHeartbeats 1600000 in
theorem rsbytes_of (h : RShAt w y d r inc s) (hd : RD w d q m) (hct : s.ct ≤ 8) (har : s.ar ≤ 1) (hfew : m.waits.length ≤ 1000000) :
 Calls Tryz.prog 95 #[.pointer (some ⟨y, 0, none⟩)] w fun e w' => ∃ A N c, e = .returned (.tuple #[.slice A N c, .int .i64 (m.allE r s)]) ∧ By w' A N c (m.allO r s) ∧ Ext w w' := by
 obtain ⟨i0, hi, hz0, hz1, hz2⟩ := info_parts byte_info
 have HDN := Lib.hid (rsdown_of h hd)
 cases hup : m.up with
 | false =>
  have he : m.allE r s = 5 := by unfold DM.allE; rw [if_pos hup]
  have ho : m.allO r s = [] := by unfold DM.allO; rw [if_neg (by rw [he]; omega)]
  rw [he, ho]
  rw [hup] at HDN
  clear he ho hup h hd har hfew
  go_enter Tryz.func95, Tryz.ntmps95
  go_wp2_with fail
  refine HDN.out.mono ?_
  rintro e w1 ⟨rfl, rfl⟩
  go_wp2_with fail
  refine bodyPost_ret (v := .tuple #[.slice none 0 0, .int .i64 5]) (by simp [results, Tryz.results95, go_sem]) rfl ?_
  exact ⟨none, 0, 0, rfl, By.nil_ _, Ext.refl _⟩
 | true =>
  have he : m.allE r s = (if m.hurtK r s s.ct = [] then 0 else 130) := by unfold DM.allE; rw [if_neg (by rw [hup]; simp)]
  have ho : m.allO r s = (if m.hurtK r s s.ct = [] then m.catK r s s.ct else []) := by
   unfold DM.allO
   rw [he]
   by_cases hh : m.hurtK r s s.ct = [] <;> simp [hh]
  have HEO := Lib.hid (And.intro he ho)
  rw [hup] at HDN
  have HR : Hid (∀ V (j : Nat), Ext w V → j < s.ct → Calls Tryz.prog 88 #[.pointer (some ⟨y, 0, none⟩), .int .i64 (j : Int)] V (RReadY m r s j V)) := Lib.hid fun V j hV hj => rsread_of (h.ext hV) (hd.ext hV) hct har j hj hfew
  have hbad : ∀ j, j < s.ct → m.chB r s j = false → m.hurtK r s s.ct ≠ [] := fun j hj hb hn => by
   have := hurtK_nil.1 hn j hj
   rw [hb] at this
   cases this
  have HBAD := Lib.hid hbad
  have H := Lib.hid h
  obtain ⟨n, hn⟩ : ∃ n, s.ct = n := ⟨_, rfl⟩
  have HN := Lib.hid hn
  rw [hn] at hct
  clear he ho hup h hd har hfew hbad hn
  go_enter Tryz.func95, Tryz.ntmps95
  go_wp2_with fail
  refine HDN.out.mono ?_
  rintro e w1 ⟨rfl, rfl⟩
  go_wp2_with fail
  go_loopw [4, 5] (fun v i wr => ∃ (j na : Nat) (Aa : Option Addr) (ca : Nat), j ≤ n ∧ na ≤ 80 * j ∧ i = .int .i64 (j : Int) ∧ v = .slice Aa na ca ∧ Hid (wr.ownsRow w.heap.size 5 1 (.slice Aa na ca) na (vb (m.catK r s j))) ∧ Hid (Ext w wr) ∧ Hid (∀ b ∈ m.catK r s j, b < 256) ∧ Hid (∀ i, i < j → m.chB r s i = true)) (fun _ i _ => n - (intOf i).toNat)
  case atStart => exact ⟨0, 0, none, 0, by omega, by omega, by simp, rfl, Lib.hid (World.ownsRow_nil _ _ _ _), Lib.hid (Ext.refl _), Lib.hid (fun b hb => by simp [DM.catK] at hb), Lib.hid fun i hi => by omega⟩
  case round =>
   obtain ⟨j, na, Aa, ca, hj, hna, rfl, rfl, HO, HX, HB, HF⟩ := hrel
   have c5 : wr.cell? ⟨y, 5, none⟩ = some (.int .i64 (n : Int)) := by rw [← HN.out]; exact (H.out.ext HX.out).cells.2.2.2.2.2
   by_cases hlt : j < n
   ·have hr := HR.out wr j HX.out (by rw [HN.out]; exact hlt)
    unfold RReadY at hr
    have hlen := chL_len m r s j
    have hlt' : (j : Int) < (n : Int) := by omega
    have HCS := Lib.hid (catK_succ m r s j)
    have HBJ := Lib.hid (HBAD.out j (by rw [HN.out]; exact hlt))
    cases hb : m.chB r s j with
    | true =>
     rw [hb] at hr
     have HR := Lib.hid hr
     have HB1 := Lib.hid hb
     clear hr hb
     generalize m.chL r s j = L2 at *
     go_wp2_with fail
     refine HR.out.mono ?_
     rintro e w1 ⟨A2, n2, c2, rfl, hby, hx⟩
     obtain rfl : n2 = L2.length := hby.len.symm
     have HX1 : Hid (Ext w w1) := Lib.hid (HX.out.trans hx)
     have HO1 : Hid (w1.ownsRow w.heap.size 5 1 (.slice Aa na ca) na (vb (m.catK r s j))) := Lib.hid (own_ext HO.out hx)
     have HBY := Lib.hid hby
     clear hby hx c5
     go_wp2_with (at_builtin; refine wpList_append_by rfl _ _ 45 rfl w.heap.size 5 i0 Tryz.underlying45 hi hz0 hz1 hz2 _ na (vb (m.catK r s j)) rfl HO1.out A2 L2.length c2 L2 rfl HBY.out (by omega) (Ext.size HX1.out) ?_)
     intro v2 w2 hown hg
     obtain ⟨hx, A3, c3', rfl, hb2, ho2⟩ := app_step HX1.out HO1.out hg hown HB.out HBY.out.rd.lt
     have HX2 := Lib.hid hx
     have HO2 := Lib.hid ho2
     have HLT := Lib.hid (Bs.rd hb2).lt
     clear hx hb2 ho2 hown hg
     go_wp2_with fail
     go_roundw
     case rel => exact ⟨j + 1, na + L2.length, A3, c3', by omega, by omega, by go_num, rfl, Lib.hid (by rw [HCS.out]; exact HO2.out), HX2, Lib.hid (by rw [HCS.out]; exact HLT.out), Lib.hid fun i hi => by
      by_cases hij : i = j
      ·subst hij; exact HB1.out
      ·exact HF.out i (by omega)⟩
     case measure => simp [intOf]; omega
    | false =>
     rw [hb] at hr
     have HR := Lib.hid hr
     have HBN := Lib.hid (HBJ.out hb)
     clear hr hb
     go_wp2_with fail
     refine HR.out.mono ?_
     rintro e w1 ⟨A2, n2, c2, rfl, hby, hx⟩
     have HX1 : Hid (Ext w w1) := Lib.hid (HX.out.trans hx)
     clear hby hx c5
     go_wp2_with fail
     refine bodyPost_ret (v := .tuple #[.slice none 0 0, .int .i64 130]) (by simp [results, Tryz.results95, go_sem]) rfl ?_
     exact ⟨none, 0, 0, by rw [HEO.out.1, if_neg HBN.out], by rw [HEO.out.2, if_neg HBN.out]; exact By.nil_ _, HX1.out⟩
   ·obtain rfl : j = n := by omega
    have HAL := Lib.hid (hurtK_nil.2 (show ∀ k, k < s.ct → m.chB r s k = true from fun k hk => HF.out k (by rw [HN.out] at hk; exact hk)))
    go_wp2_with fail
    refine bodyPost_ret (v := .tuple #[.slice Aa na ca, .int .i64 0]) (by simp [results, Tryz.results95, go_sem]) rfl ?_
    exact ⟨Aa, na, ca, by rw [HEO.out.1, if_pos HAL.out], by rw [HEO.out.2, if_pos HAL.out, HN.out]; exact Bs.of_own HO.out HB.out, HX.out⟩
set_option maxHeartbeats 1600000 in
theorem rshurt_of (h : RShAt w y d r inc s) (hd : RD w d q m) (hct : s.ct ≤ 8) (har : s.ar ≤ 1) (hfew : m.waits.length ≤ 1000000) :
 Calls Tryz.prog 93 #[.pointer (some ⟨y, 0, none⟩)] w fun e w' => ∃ A c, e = .returned (.slice A (m.hurtK r s s.ct).length c) ∧ w'.ownsRow w.heap.size 3 1 (.slice A (m.hurtK r s s.ct).length c) (m.hurtK r s s.ct).length ((m.hurtK r s s.ct).map fun k : Nat => Value.int .i64 (k : Int)) ∧ Ext w w' := by
 obtain ⟨i0, hi, hz0, hz1, hz2⟩ := info_parts int_infoS
 have HR : Hid (∀ V (j : Nat), Ext w V → j < s.ct → Calls Tryz.prog 88 #[.pointer (some ⟨y, 0, none⟩), .int .i64 (j : Int)] V (RReadY m r s j V)) := Lib.hid fun V j hV hj => rsread_of (h.ext hV) (hd.ext hV) hct har j hj hfew
 have H := Lib.hid h
 obtain ⟨n, hn⟩ : ∃ n, s.ct = n := ⟨_, rfl⟩
 have HN := Lib.hid hn
 rw [hn] at hct ⊢
 clear h hd har hfew hn
 go_enter Tryz.func93, Tryz.ntmps93
 go_wp2_with fail
 go_loopw [3, 4] (fun b i wr => ∃ k : Nat, k ≤ n ∧ i = .int .i64 (k : Int) ∧ Hid (wr.ownsRow w.heap.size 3 1 b (m.hurtK r s k).length ((m.hurtK r s k).map fun k : Nat => Value.int .i64 (k : Int)) ∧ Ext w wr)) (fun _ i _ => n - (intOf i).toNat)
 case atStart => exact ⟨0, Nat.zero_le _, rfl, Lib.hid ⟨World.ownsRow_nil _ _ _ _, Ext.refl w⟩⟩
 case round =>
  obtain ⟨k, hk, rfl, HG⟩ := hrel
  have c5 : wr.cell? ⟨y, 5, none⟩ = some (.int .i64 (n : Int)) := by rw [← HN.out]; exact (H.out.ext HG.out.2).cells.2.2.2.2.2
  by_cases hlt : k < n
  ·have hr := HR.out wr k HG.out.2 (by rw [HN.out]; exact hlt)
   unfold RReadY at hr
   have hs := hurtK_succ m r s k
   have hlt' : (k : Int) < (n : Int) := by omega
   cases hf : m.chB r s k with
   | true =>
    rw [hf] at hr hs
    rw [if_pos rfl] at hs
    have HR := Lib.hid hr
    have HS := Lib.hid hs
    clear hs hf hr
    go_wp2_with fail
    refine HR.out.mono ?_
    rintro e w1 ⟨A2, n2, c2, rfl, hby, hx⟩
    have HG1 := Lib.hid (And.intro (own_ext HG.out.1 hx) (HG.out.2.trans hx))
    clear hby hx c5
    go_wp2_with fail
    go_roundw
    case rel => exact ⟨k + 1, by omega, by go_num, by rw [HS.out]; exact HG1⟩
    case measure => simp [intOf]; omega
   | false =>
    rw [hf] at hr hs
    rw [if_neg (by simp)] at hs
    have HR := Lib.hid hr
    have HS := Lib.hid hs
    have hfewl : (m.hurtK r s k).length ≤ k := by
     unfold DM.hurtK
     refine Nat.le_trans (List.length_filter_le _ _) ?_
     simp
    clear hs hf hr
    go_wp2_with fail
    refine HR.out.mono ?_
    rintro e w1 ⟨A2, n2, c2, rfl, hby, hx⟩
    have HG1 := Lib.hid (And.intro (own_ext HG.out.1 hx) (HG.out.2.trans hx))
    have hsz2 := HG1.out.2.size
    clear hby hx c5
    go_wp2_with (at_builtin; refine wpList_append_own _ rfl _ _ 164 rfl w.heap.size 3 i0 (.int .i64 0) 1 8 Tryz.underlying164 hi hz0 hz1 hz2 rfl (by decide) _ _ _ rfl (own_ext HG1.out.1 ((Ext.refl w1).alloc _)) ⟨w1.heap.size, 0, none⟩ 1 1 [.int .i64 (k : Int)] rfl rfl ?c1 ?c2 ?c3 ?c4 ?c5 ?_)
    case c1 =>
     intro j u hj
     match j, hj with
     | 0, hj => simp at hj; subst hj; simp [Addr.add]
    case c2 => intro u hu; simp at hu; subst hu; rfl
    case c3 => unfold maxLen; omega
    case c4 => omega
    case c5 => simp; omega
    intro v1 w3 hown hg _
    have HG3 : Hid (w3.ownsRow w.heap.size 3 1 v1 (m.hurtK r s (k + 1)).length ((m.hurtK r s (k + 1)).map fun k : Nat => Value.int .i64 (k : Int)) ∧ Ext w w3) := by
     rw [HS.out, List.length_append, List.map_append]
     exact Lib.hid ⟨hown, Below.grown (HG1.out.2.alloc _) hg (Nat.le_trans HG1.out.2.size (by simp)) (fun g hg' => (HG1.out.1.lt g hg').1)⟩
    clear hown hg
    go_wp2_with fail
    go_roundw
    case rel => exact ⟨k + 1, by omega, by go_num, HG3⟩
    case measure => simp [intOf]; omega
  ·obtain rfl : k = n := by omega
   go_wp2_with fail
   obtain ⟨A, c, hv, _, _⟩ := own_form HG.out.1
   subst hv
   go_ret
   exact ⟨A, c, rfl, HG.out.1, HG.out.2⟩
end
end
section
open Go Go.RowKit
def SeqBd {α : Type} (F : Fence) (n : Nat) (P : Program) (gf : Nat) (bd : Array Value) (enc : α → Array Value) (S : List α → Prop) (N : Nat) (w : World) : Prop :=
 ∀ (l : Nat) (J : List α → World → Prop) (W : World), Below w.heap.size w W → AbidesFrom W.heap.size J → (∀ s U, J s U → Below w.heap.size w U) →
  (∀ pre x U, J pre U → pre.length < N → YieldAt F (n - 1) P l (enc x) U fun e U' => e = .returned (.bool true) ∧ J (pre ++ [x]) U') → J [] W →
  CallsIn F n P gf (bd ++ #[.func (.yield l) #[] #[]]) W fun e W' => (∃ v, e = .returned v) ∧ ∃ xs, S xs ∧ J xs W'
def roundBd {α : Type} (B : Nat) (I : List α → World → Prop) (xs : List α) (W : World) : Exit → Act → World → Prop
 | .normal, _, W' => KeepsFrom B W W' ∧ I xs W'
 | _, _, _ => False
theorem range_bd {F : Fence} {n : Nat} {P : Program} {α : Type} {g : Operand} {ps : Array Tmp} {assign body : Code} {Q : Exit → Act → World → Prop} {a : Act} {w : World}
 (hro : F.round = none) (h1 : 1 ≤ n) {gf : Nat} {bd : Array Value} (hg : a.eval g = .func (.func gf) bd #[]) (hFg : F.fn gf) (eg : ∀ args w, (callFunc gf args).run P w = .ok (.enter gf args) w)
 {enc : α → Array Value} {S : List α → Prop} {N : Nat} {w0 : World} (hseq : SeqBd F (n - 1) P gf bd enc S N w0) (hw0 : Below w0.heap.size w0 w) (hps : ∀ x, (enc x).size = ps.size)
 (I : List α → World → Prop) (hI : OwnFrom w.heap.size I) (hB : ∀ s U, I s U → Below w0.heap.size w0 U) (h0 : I [] w) (a₁ : α → Act)
 (hassign : ∀ (l : Nat) (x : α) (W : World) (K : Act → World → Prop), K (a₁ x) W →
  assign.wpIn (F.inRound l) (n - 1 - 1) P (Exit.then K (fun _ _ _ => False)) { tmps := (ps.zip (enc x)).foldl (fun t (p, v) => t.setIfInBounds p v) a.tmps, defers := [] } W)
 (hbody : ∀ (l : Nat) (pre : List α) (x : α) (W : World), I pre W → pre.length < N → body.wpIn (F.inRound l) (n - 1 - 1) P (roundBd w.heap.size I (pre ++ [x]) W) (a₁ x) W)
 (hdone : ∀ (D : Nat) (xs : List α) (W : World), w.heap.size ≤ D → S xs → I xs W → W.heap[D]? = some (.deferred (some [])) → Q .normal { a with defers := { target := .collected D, args := #[] } :: a.defers } W) :
 (Code.rangeFunc g ps assign body).wpIn F n P Q a w := by
 refine wpIn_rangeFunc fun fn hfn => ?_
 rw [hro]
 generalize hD : w.heap.size = D
 let rec_ : LoopState → Option Code → Loop := fun st pe => { state := st, pending := pe, fn, tmps := a.tmps, params := ps, assign, body, defers := D }
 have hloop : ∃ W1, (w.alloc (.deferred (some []))).alloc (.loop (rec_ .ready none)) = W1 ∧ W1.heap[D + 1]? = some (.loop (rec_ .ready none)) ∧ W1.heap[D]? = some (.deferred (some [])) ∧ W1.heap.size = D + 2 ∧ Below D w W1 ∧ I [] W1 := by
  refine ⟨_, rfl, ?_, ?_, by simp [hD], ?_, hI.alloc _ (hI.alloc _ h0)⟩
  ·have := World.alloc_heap_new (w.alloc (.deferred (some []))) (.loop (rec_ .ready none))
   rwa [World.size_alloc, hD] at this
  ·have := World.alloc_heap_new w (.deferred (some []))
   rw [hD] at this
   exact (Below.heap_alloc _ _ _ (by simp [hD])).trans this
  ·rw [← hD]
   exact ((Below.refl _ w).alloc (Nat.le_refl _) _).alloc (by simp) _
 obtain ⟨W1, hW1, hL1, hK1, hsz, hb1, hI1⟩ := hloop
 refine ⟨D + 1, [{ target := .collected D, args := #[] }], W1, { target := .fn (.func gf) #[], args := bd ++ #[.func (.yield (D + 1)) #[] #[]] }, W1, gf, bd ++ #[.func (.yield (D + 1)) #[] #[]], W1, ?_, ?_, ?_, ?_, fun _ => h1, ?_⟩
 ·rw [← hW1, ← hD]
  have := run_enterLoop_outer (P := P) (w := w) fn a.tmps ps assign body
  rw [hD] at this ⊢
  exact this
 ·simp only [resolve, hg]
  simp [go_sem]
 ·intro f' hf'
  simp [Target.leads] at hf'
  subst hf'
  exact hFg
 ·simp [invoke, go_sem, eg]
 ·refine (hseq (D + 1) (fun pre U => I pre U ∧ U.heap[D + 1]? = some (.loop (rec_ .ready none)) ∧ U.heap[D]? = some (.deferred (some []))) W1 (hw0.trans (hb1.mono (by rw [← hD]; exact hw0.size))) ?_ (fun s U h => hB s U h.1) ?_ ⟨hI1, hL1, hK1⟩).mono ?_
  ·intro s A B row hs hgr hr
   refine ⟨hI s A B row hs.1 hgr fun r e => ?_, (grownBy_keeps hgr (fun r e => (hr r e).2) hs.2.1 rfl).trans hs.2.1, (grownBy_keeps hgr (fun r e => (hr r e).2) hs.2.2 rfl).trans hs.2.2⟩
   obtain ⟨h2, o, ho, hw⟩ := hr r e
   exact ⟨by omega, o, ho, Obj.not_cells_of_walk hw⟩
  ·rintro pre x U ⟨hi, hl, hk⟩ hN
   have hlt : D + 1 < U.heap.size := (Array.getElem?_eq_some_iff.1 hl).1
   refine ⟨fn, _, assign, body, run_yield (P := P) (args := enc x) hl (hps x), roundIn_of_wpIn hfn (hassign _ x U _ ⟨_, run_beginRound hl rfl, ?_⟩)⟩
   have hbl : (U.putObj (D + 1) (.loop { rec_ .ready none with state := .busy })).heap[D + 1]? = some (.loop { rec_ .ready none with state := .busy }) := World.putObj_heap_same hlt
   have hbk : (U.putObj (D + 1) (.loop { rec_ .ready none with state := .busy })).heap[D]? = some (.deferred (some [])) := (World.putObj_heap_other (by omega)).trans hk
   refine wpIn_mono (hbody _ pre x _ (hI.putObj _ hi (by omega) hl rfl) hN) ?_
   intro e a3 W3 hp
   cases e with
   | normal =>
    obtain ⟨hk3, hi3⟩ := hp
    have hl3 := hk3.same _ _ (by omega) hbl rfl
    have hd3 := hk3.same _ _ (by omega) hbk rfl
    exact ⟨_, _, run_endRound (P := P) none hl3, rfl, hI.putObj _ hi3 (by omega) hl3 rfl, World.putObj_heap_same (Array.getElem?_eq_some_iff.1 hl3).1, (World.putObj_heap_other (by omega)).trans hd3⟩
   | ret => exact hp.elim
   | exit id => exact hp.elim
   | goto t => exact hp.elim
   | panic ch => exact hp.elim
   | outgrown => exact hp.elim
  ·rintro e W2 ⟨⟨v, rfl⟩, xs, hS, hi, hl, hk⟩
   exact ⟨none, _, run_endLoop (P := P) hl (by simp [rec_]), hdone _ xs _ (by omega) hS (hI.putObj _ hi (by omega) hl rfl) ((World.putObj_heap_other (by omega)).trans hk)⟩
end
section
open Go Go.RowKit Go.Shelf
attribute [local go_sem] Oper.semAt_some
theorem hurtK_len (m : DM) (r : Int) (s : ShM) (n : Nat) : (m.hurtK r s n).length ≤ n := by
 unfold DM.hurtK
 refine Nat.le_trans (List.length_filter_le _ _) ?_
 simp
def encK (k : Nat) : Array Value := #[.int .i64 (k : Int)]
set_option maxHeartbeats 1600000 in
theorem yhurt_seq (n0 : Nat) (hn0 : 1 ≤ n0) {w : World} {g d : Nat} {r inc : Int} {s : ShM} {F : Nat → Prop} {m : DM} (h : ShAt w g d r inc s) (hd : PDisk w d F m) (hL : LaidY w) (hct : s.ct ≤ 8) (har : s.ar ≤ 1) (hfew : m.waits.length ≤ 1000000) :
 SeqBd Fence.wide n0 Tryz.prog 179 #[.pointer (some ⟨g, 0, none⟩)] encK (fun ys => ys = m.hurtK r s s.ct) 8 w := fun l J V hV hJ hB hY h0 => by
 have HAB : Hid (∀ s W W', J s W → Ext W W' → J s W') := Lib.hid fun s W W' hs hx => hJ s W W' none hs (grown_of_ext hx) (fun r e => by cases e)
 have HIS : Hid (∀ U (j : Nat), Ext w U → j < s.ct → Calls Tryz.prog 86 #[.pointer (some ⟨g, 0, none⟩), .int .i64 (j : Int)] U fun e w' => e = .returned (.bool (!m.chB r s j)) ∧ Ext U w') := Lib.hid fun U j hU hj => yishurt_of (h.ext hU) (hd.ext hU) (hL.ext hU) hct har j hj hfew
 have HB := Lib.hid hB
 have HY := Lib.hid hY
 have H := Lib.hid h
 have hcl := (h.ext hV).cells.2.2.2.2.2.2
 clear hJ hB hY hd hL har hfew h
 refine callsIn_of_wp Tryz.func179 rfl trivial ?_ rfl
 simp only [Tryz.ntmps179, List.size_toArray, List.length_cons, List.length_nil, Nat.reduceAdd, Nat.reduceSub, Array.replicate_succ, Array.replicate_zero, List.push_toArray, List.append_toArray, List.nil_append, List.cons_append]
 gi_wp2
 gi_loopw [10] (fun i wr => ∃ (j : Nat), j ≤ s.ct ∧ i = .int .i64 (j : Int) ∧ Hid (J (m.hurtK r s j) wr)) (fun i _ => 100 - (intOf i).toNat)
 case atStart => exact ⟨0, by omega, rfl, Lib.hid h0⟩
 case round =>
  obtain ⟨j, hj, rfl, HJ⟩ := hrel
  have HX : Hid (Ext w wr) := Lib.hid (HB.out _ _ HJ.out)
  clear hcl
  by_cases hlt : j < s.ct
  ·have hij := HIS.out wr j HX.out hlt
   have hks := hurtK_succ m r s j
   cases hb : m.chB r s j with
   | true =>
    rw [hb, if_pos rfl] at hks
    rw [hb, Bool.not_true] at hij
    have HIJ := Lib.hid hij
    have HKS := Lib.hid hks
    clear hb hij hks
    gi_wp2_with (refine ⟨trivial, ?_⟩; gi_at_call 86; refine (callsIn_wide.2 HIJ.out).mono ?_; rintro e W3 ⟨rfl, hx3⟩)
    have HJ3 := Lib.hid (HAB.out _ _ _ HJ.out hx3)
    clear hx3
    gi_wp2
    refine ⟨fun _ h => (by cases h), ?_⟩
    gi_wp2
    go_roundw
    case rel => exact ⟨j + 1, by omega, by go_num, Lib.hid (by rw [HKS.out]; exact HJ3.out)⟩
    case measure => simp [intOf]; omega
   | false =>
    rw [hb, if_neg (by simp)] at hks
    rw [hb, Bool.not_false] at hij
    have HIJ := Lib.hid hij
    have HKS := Lib.hid hks
    clear hb hij hks
    gi_wp2_with (refine ⟨trivial, ?_⟩; gi_at_call 86; refine (callsIn_wide.2 HIJ.out).mono ?_; rintro e W3 ⟨rfl, hx3⟩; obtain ⟨fn, tmps, assign, body, hy, hR⟩ := HY.out (m.hurtK r s j) j W3 (HAB.out _ _ _ HJ.out hx3) (by have := hurtK_len m r s j; omega); have HR := Lib.hid hR; have hy2 : (Instr.yield l #[.int .i64 (j : Int)]).run Tryz.prog W3 = .ok (.round l fn tmps assign body) W3 := hy; clear hR hy hx3)
    refine HR.out.mono ?_
    rintro e W4 ⟨rfl, hJ4⟩
    have HJ4 := Lib.hid hJ4
    clear hJ4 hy2
    gi_wp2
    go_roundw
    case rel => exact ⟨j + 1, by omega, by go_num, Lib.hid (by rw [HKS.out]; exact HJ4.out)⟩
    case measure => simp [intOf]; omega
  ·obtain rfl : j = s.ct := by omega
   gi_wp2
   go_end0
   exact ⟨⟨_, rfl⟩, _, rfl, HJ.out⟩
theorem int_infoY : (Tryz.prog.info? 3).map (fun i => (i.zero, i.size, i.bytes)) = some (some (.int .i64 0), 1, 8) := by kernel_rfl
set_option maxHeartbeats 1600000 in
theorem yappendSeq_of {w : World} {g d : Nat} {r inc : Int} {s : ShM} {F : Nat → Prop} {m : DM} (h : ShAt w g d r inc s) (hd : PDisk w d F m) (hL : LaidY w) (hct : s.ct ≤ 8) (har : s.ar ≤ 1) (hfew : m.waits.length ≤ 1000000) :
 Calls Tryz.prog 224 #[.slice none 0 0, .func (.func 179) #[.pointer (some ⟨g, 0, none⟩)] #[]] w fun e w' =>
  ∃ v, e = .returned v ∧ w'.ownsRow w.heap.size 3 1 v (m.hurtK r s s.ct).length ((m.hurtK r s s.ct).map fun k : Nat => Value.int .i64 (k : Int)) ∧ Ext w w' := by
 obtain ⟨i0, hi, hz0', hz1', hz2'⟩ := info_parts int_infoY
 have bO := Boxed.new w 164 (.slice none 0 0)
 have hE : Ext w (w.alloc (.cells #[.slice none 0 0] 164)) := (Ext.refl w).alloc _
 have hst := yhurt_seq 8 (by omega) h hd hL hct har hfew
 have hlen : (m.hurtK r s s.ct).length ≤ 8 := by
  unfold DM.hurtK
  refine Nat.le_trans (List.length_filter_le _ _) ?_
  simp
  omega
 have HST := Lib.hid hst
 have HE := Lib.hid hE
 clear hst hE h hd hL har hfew
 refine calls_marks Tryz.func224 rfl ?_
 simp only [Tryz.ntmps224, List.size_toArray, List.length_cons, List.length_nil, Nat.reduceAdd, Nat.reduceSub, Array.replicate_succ, Array.replicate_zero, List.push_toArray, List.append_toArray, List.nil_append, List.cons_append]
 go_wp2_with fail
 refine (wpIn_wide (n := 9)).1 ?_
 refine range_bd (F := Fence.wide) (n := 9) rfl (by omega) (gf := 179) (bd := #[.pointer (some ⟨g, 0, none⟩)]) rfl trivial (enters_of Tryz.func179 (by kernel_rfl) rfl)
  HST.out HE.out (fun _ => rfl)
  (fun pre W => (∃ v, Boxed W w.heap.size 164 v ∧ W.ownsRow w.heap.size 3 1 v pre.length (pre.map fun x : Nat => Value.int .i64 (x : Int)) ∧ True) ∧ Below w.heap.size w W)
  (OwnFrom.and (Own.from (holdsRow_own w.heap.size w.heap.size 164 3 1 (fun pre : List Nat => pre.length) (fun pre : List Nat => pre.map fun x : Nat => Value.int .i64 (x : Int)) (fun _ _ => True)) _) (ownFrom_below (Nat.le_refl _) HE.out.size))
  (fun _ _ hs => hs.2)
  ⟨⟨_, bO, World.ownsRow_nil _ _ _ _, trivial⟩, HE.out⟩
  (fun x => { tmps := #[.slice none 0 0, .func (.func 179) #[.pointer (some ⟨g, 0, none⟩)] #[], .pointer (some ⟨w.heap.size, 0, none⟩), undef, .slice none 0 0, .int .i64 (x : Int), .func (.func 179) #[.pointer (some ⟨g, 0, none⟩)] #[], .int .i64 (x : Int), undef, undef, undef, undef, undef], defers := [] }) ?assign ?body ?done
 case assign =>
  intro l x W K hK
  dsimp only [encK]
  gi_wp2
  exact hK
 case body =>
  rintro l pre x W ⟨⟨v, hv, hrow, _⟩, hB⟩ hlt
  have hc := hv.cell
  gi_wp2_with (gi_at_builtin; refine wpListIn_append_own _ rfl _ _ 164 rfl w.heap.size 3 i0 (.int .i64 0) 1 8 Tryz.underlying164 hi hz0' hz1' hz2' rfl (by decide) _ _ _ rfl (hrow.alloc _) ⟨W.heap.size, 0, none⟩ 1 1 [.int .i64 (x : Int)] rfl rfl (cell_one_new _ _ _) (by simp [Value.oneCell']) (by unfold maxLen; omega) (by omega) (by have := hB.size; simp; omega) ?_; intro v' w1 hown' hgrow _; obtain ⟨g', cap', rfl⟩ := ownsRow_succ hown'; obtain ⟨hv1, hv2, hr2, hk2, hb2⟩ := hv.appended (by decide) hrow hB.size (Nat.le_refl _) hown' hgrow; have hc1 := hv1.cell; have hf1 := hv1.frozen)
  exact ⟨hk2.from _, ⟨_, hv2, by simpa using hr2, trivial⟩, hB.trans hb2⟩
 case done =>
  rintro D ys W hD hys ⟨⟨v, hv, hrow, _⟩, hB⟩ hK
  have hc := hv.cell
  subst hys
  have HRW := Lib.hid hrow
  have HBB := Lib.hid hB
  clear hrow hB
  go_wp2_with fail
  refine retM1 rfl hK (v := v) ?_ ?_
  ·simp [results, Tryz.results224, go_sem]
  ·exact ⟨v, rfl, ownsRow_putObj HRW.out _ hK rfl, HBB.out.trans (belowK_b (w := w) (Nat.le_refl _) W D _ _ (Nat.le_trans HE.out.size hD) hK rfl rfl)⟩
set_option maxHeartbeats 800000 in
theorem ycollect_of {w : World} {g d : Nat} {r inc : Int} {s : ShM} {F : Nat → Prop} {m : DM} (h : ShAt w g d r inc s) (hd : PDisk w d F m) (hL : LaidY w) (hct : s.ct ≤ 8) (har : s.ar ≤ 1) (hfew : m.waits.length ≤ 1000000) :
 Calls Tryz.prog 178 #[.func (.func 179) #[.pointer (some ⟨g, 0, none⟩)] #[]] w fun e w' =>
  ∃ v, e = .returned v ∧ w'.ownsRow w.heap.size 3 1 v (m.hurtK r s s.ct).length ((m.hurtK r s s.ct).map fun k : Nat => Value.int .i64 (k : Int)) ∧ Ext w w' := by
 have HA := Lib.hid (yappendSeq_of h hd hL hct har hfew)
 clear h hd hL hct har hfew
 go_enter Tryz.func178, Tryz.ntmps178
 go_wp2_with fail
 refine HA.out.mono ?_
 rintro e w1 ⟨v, rfl, hrow, hx⟩
 have HR := Lib.hid hrow
 have HX := Lib.hid hx
 clear hrow hx
 go_wp2_with fail
 go_ret
 exact ⟨v, rfl, HR.out, HX.out⟩
set_option maxHeartbeats 800000 in
theorem yhurt_yes {w : World} {g d : Nat} {r inc : Int} {s : ShM} {F : Nat → Prop} {m : DM} (h : ShAt w g d r inc s) (hd : PDisk w d F m) (hL : LaidY w) (hct : s.ct ≤ 8) (har : s.ar ≤ 1) (hfew : m.waits.length ≤ 1000000) :
 Calls Tryz.prog 92 #[.pointer (some ⟨g, 0, none⟩)] w fun e w' => ∃ A c, e = .returned (.slice A (m.hurtK r s s.ct).length c) ∧ w'.ownsRow w.heap.size 3 1 (.slice A (m.hurtK r s s.ct).length c) (m.hurtK r s s.ct).length ((m.hurtK r s s.ct).map fun k : Nat => Value.int .i64 (k : Int)) ∧ Ext w w' := by
 obtain ⟨c0, c1, c2, c3, c4, c5, c6⟩ := h.cells
 have HM := Lib.hid (ymade_yes g w c0)
 have HS := Lib.hid (ycollect_of h hd hL hct har hfew)
 clear h hd hL hct har hfew c0 c1 c2 c3 c4 c5 c6
 go_enter Tryz.func92, Tryz.ntmps92
 go_wp2_with fail
 refine HM.out.mono ?_
 rintro e w1 ⟨rfl, rfl⟩
 go_wp2_with fail
 refine HS.out.mono ?_
 rintro e w2 ⟨v, rfl, hrow, hx⟩
 obtain ⟨A, c, rfl, hn, hc⟩ := own_form hrow
 have HR := Lib.hid hrow
 have HX := Lib.hid hx
 clear hrow hx hn hc
 go_wp2_with fail
 go_ret
 exact ⟨A, c, rfl, HR.out, HX.out⟩
end
section
open Go Go.RowKit
def RowS (w : World) (A : Option Addr) (L : List Nat) : Prop := ∀ k (h : k < L.length), ∃ g, A = some ⟨g, 0, none⟩ ∧ w.cell? ⟨g, k, none⟩ = some (.int .i64 ((L[k] : Nat) : Int))
theorem RowS.of_own {w : World} {b c n : Nat} {A : Option Addr} {L : List Nat} (h : w.ownsRow b 3 1 (.slice A n c) n (L.map fun k : Nat => Value.int .i64 (k : Int))) : RowS w A L := fun k hk => by
 have hl := h.1
 rw [List.length_map] at hl
 rcases h.2 with ⟨_, h0⟩ | ⟨g, cap, cur, hv, _⟩
 ·omega
 ·injection hv with hA _ _
  subst hA
  refine ⟨g, rfl, ?_⟩
  rw [h.cellAt k (by omega), List.getElem?_map, List.getElem?_eq_getElem hk]
  rfl
theorem RowS.ext {w w' : World} {A : Option Addr} {L : List Nat} (h : RowS w A L) (hx : Ext w w') : RowS w' A L := fun k hk => by
 obtain ⟨g, h1, h2⟩ := h k hk
 exact ⟨g, h1, ext_of_cell hx h2⟩
set_option maxHeartbeats 800000 in
theorem rsints_of {w : World} (A1 A2 : Option Addr) (c1 c2 : Nat) (L : List Nat) (hl : L.length ≤ 100) (h1 : RowS w A1 L) (h2 : RowS w A2 L) :
 Calls Tryz.prog 91 #[.slice A1 L.length c1, .slice A2 L.length c2] w fun e w' => e = .returned (.bool true) ∧ Ext w w' := by
 have H1 := Lib.hid h1
 have H2 := Lib.hid h2
 obtain ⟨n, hn⟩ : ∃ n, L.length = n := ⟨_, rfl⟩
 have HN := Lib.hid hn
 rw [hn] at hl ⊢
 clear h1 h2 hn
 go_enter Tryz.func91, Tryz.ntmps91
 go_wp2_with fail
 go_loopw [5] (fun i wr => ∃ k : Nat, k ≤ n ∧ i = .int .i64 (k : Int) ∧ Hid (Ext w wr)) (fun i _ => n - (intOf i).toNat)
 case atStart => exact ⟨0, Nat.zero_le _, rfl, Lib.hid (Ext.refl _)⟩
 case round =>
  obtain ⟨k, hk, rfl, HX⟩ := hrel
  by_cases hlt : k < n
  ·obtain ⟨g1, rfl, k1⟩ := H1.out k (by rw [HN.out]; exact hlt)
   obtain ⟨g2, rfl, k2⟩ := H2.out k (by rw [HN.out]; exact hlt)
   generalize ((L[k]'(by rw [HN.out]; exact hlt) : Nat) : Int) = x at k1 k2
   have k1 : wr.drew.cell? ⟨g1, k, none⟩ = some (.int .i64 x) := ext_of_cell HX.out.drew k1
   have k2 : wr.drew.cell? ⟨g2, k, none⟩ = some (.int .i64 x) := ext_of_cell HX.out.drew k2
   have HX2 := Lib.hid (HX.out.drew)
   have hlt' : (k : Int) < (n : Int) := by omega
   go_wp2_with fail
   go_region
   go_wp2_with fail
   go_roundw
   case rel => exact ⟨k + 1, by omega, by go_num, HX2⟩
   case measure => simp [intOf]; omega
  ·obtain rfl : k = n := by omega
   go_wp2_with fail
   go_ret
   exact ⟨rfl, HX.out⟩
set_option maxHeartbeats 3200000 in
theorem stells_of {w : World} {g d y e : Nat} {r inc : Int} {s : ShM} {F : Nat → Prop} {p : Nat → Nat} {m : DM} (h : ShAt w g d r inc s) (hd : PDisk w d F m) (hL : LaidY w) (h2 : RShAt w y e r inc s) (hd2 : RD w e p m) (hct : s.ct ≤ 8) (har : s.ar ≤ 1) (hfew : m.waits.length ≤ 1000000) :
 Calls Tryz.prog 31 #[.pointer (some ⟨g, 0, none⟩), .pointer (some ⟨y, 0, none⟩)] w fun e w' => e = .returned (.bool true) ∧ Ext w w' := by
 have H := Lib.hid h
 have HD := Lib.hid hd
 have HL := Lib.hid hL
 have H2 := Lib.hid h2
 have HD2 := Lib.hid hd2
 have HFW := Lib.hid hfew
 have HCT := Lib.hid (And.intro hct har)
 have HIX : Hid (∀ V, Ext w V → Calls Tryz.prog 89 #[.pointer (some ⟨g, 0, none⟩)] V fun e w' => e = .returned (.int .i64 (s.ix : Int)) ∧ V = w') := Lib.hid fun V hV => yindex_of (h.ext hV)
 have HCN : Hid (∀ V, Ext w V → Calls Tryz.prog 90 #[.pointer (some ⟨g, 0, none⟩)] V fun e w' => e = .returned (.int .i64 (s.ct : Int)) ∧ V = w') := Lib.hid fun V hV => ycount_of (h.ext hV)
 have HYH : Hid (∀ V, Ext w V → Calls Tryz.prog 92 #[.pointer (some ⟨g, 0, none⟩)] V fun e w' => ∃ A c, e = .returned (.slice A (m.hurtK r s s.ct).length c) ∧ RowS w' A (m.hurtK r s s.ct) ∧ Ext V w') := Lib.hid fun V hV => (yhurt_yes (h.ext hV) (hd.ext hV) (hL.ext hV) hct har hfew).mono fun _ _ ⟨A, c, h1, h2, h3⟩ => ⟨A, c, h1, RowS.of_own h2, h3⟩
 have HRH : Hid (∀ V, Ext w V → Calls Tryz.prog 93 #[.pointer (some ⟨y, 0, none⟩)] V fun e w' => ∃ A c, e = .returned (.slice A (m.hurtK r s s.ct).length c) ∧ RowS w' A (m.hurtK r s s.ct) ∧ Ext V w') := Lib.hid fun V hV => (rshurt_of (h2.ext hV) (hd2.ext hV) hct har hfew).mono fun _ _ ⟨A, c, h1, h2, h3⟩ => ⟨A, c, h1, RowS.of_own h2, h3⟩
 have hlen : (m.hurtK r s s.ct).length ≤ 100 := by
  unfold DM.hurtK
  refine Nat.le_trans (List.length_filter_le _ _) ?_
  simp
  omega
 have HIT : Hid (∀ (V : World) (A1 A2 : Option Addr) (c1 c2 : Nat), RowS V A1 (m.hurtK r s s.ct) → RowS V A2 (m.hurtK r s s.ct) → Calls Tryz.prog 91 #[.slice A1 (m.hurtK r s s.ct).length c1, .slice A2 (m.hurtK r s s.ct).length c2] V fun e w' => e = .returned (.bool true) ∧ Ext V w') := Lib.hid fun V A1 A2 c1 c2 h1 h2 => rsints_of A1 A2 c1 c2 _ hlen h1 h2
 have hq3 : ∀ V, Ext w V → V.cell? ⟨y, 3, none⟩ = some (.int .i64 (s.ix : Int)) ∧ V.cell? ⟨y, 5, none⟩ = some (.int .i64 (s.ct : Int)) := fun V hV => ⟨(h2.ext hV).cells.2.2.2.1, (h2.ext hV).cells.2.2.2.2.2⟩
 have HQ3 := Lib.hid hq3
 have HYB : Hid (∀ V, Ext w V → Calls Tryz.prog 94 #[.pointer (some ⟨g, 0, none⟩)] V fun e w' => ∃ A N c, e = .returned (.tuple #[.slice A N c, .int .i64 (m.allE r s)]) ∧ By w' A N c (m.allO r s) ∧ (∀ p, A = some p → V.heap.size ≤ p.block) ∧ Ext V w') := Lib.hid fun V hV => ybytes_of (h.ext hV) (hd.ext hV) (hL.ext hV) hct har hfew
 have HRB : Hid (∀ V, Ext w V → Calls Tryz.prog 95 #[.pointer (some ⟨y, 0, none⟩)] V fun e w' => ∃ A N c, e = .returned (.tuple #[.slice A N c, .int .i64 (m.allE r s)]) ∧ By w' A N c (m.allO r s) ∧ Ext V w') := Lib.hid fun V hV => rsbytes_of (h2.ext hV) (hd2.ext hV) hct har hfew
 have HYC : Hid (∀ V (k : Int), Ext w V → Calls Tryz.prog 96 #[.pointer (some ⟨g, 0, none⟩), .int .i64 k] V fun e w' => ∃ A N c, e = .returned (.tuple #[.slice A N c, .int .i64 (m.chunkE r s k)]) ∧ By w' A N c (m.chunkO r s k) ∧ (∀ p, A = some p → V.heap.size ≤ p.block) ∧ Ext V w') := Lib.hid fun V k hV => ychunk_of (h.ext hV) (hd.ext hV) (hL.ext hV) hct har k hfew
 have HRC : Hid (∀ V (k : Int), Ext w V → Calls Tryz.prog 97 #[.pointer (some ⟨y, 0, none⟩), .int .i64 k] V fun e w' => ∃ A N c, e = .returned (.tuple #[.slice A N c, .int .i64 (m.chunkE r s k)]) ∧ By w' A N c (m.chunkO r s k) ∧ Ext V w') := Lib.hid fun V k hV => rschunk_of (h2.ext hV) (hd2.ext hV) hct har k hfew
 clear h hd hL h2 hd2 hct har hfew hlen hq3
 generalize m.hurtK r s s.ct = HK at *
 generalize m.allE r s = aE at *
 generalize m.allO r s = aO at *
 generalize m.chunkE r s = cE at *
 generalize m.chunkO r s = cO at *
 have hS : w.drew.cell? ⟨y, 3, none⟩ = some (.int .i64 (s.ix : Int)) ∧ w.drew.cell? ⟨y, 5, none⟩ = some (.int .i64 (s.ct : Int)) := HQ3.out _ (Ext.refl w).drew
 have HX : Hid (Ext w w.drew) := Lib.hid (Ext.refl w).drew
 have hix : ((s.ix : Int) != (s.ix : Int)) = false := by simp
 have hcx : ((s.ct : Int) != (s.ct : Int)) = false := by simp
 go_enter Tryz.func31, Tryz.ntmps31
 go_upto_region 1 with (fail)
 go_region_held3 (fun w' => w'.cell? ⟨y, 3, none⟩ = some (.int .i64 (s.ix : Int)) ∧ w'.cell? ⟨y, 5, none⟩ = some (.int .i64 (s.ct : Int)))
  (with_reducible exact hS)
  (first
   | (go_at_call 89; ((with_reducible refine (HIX.out _ HX.out).mono ?_); rintro e' w3 ⟨rfl, rfl⟩))
   | (go_at_call 90; ((with_reducible refine (HCN.out _ HX.out).mono ?_); rintro e' w3 ⟨rfl, rfl⟩))
   | (go_at_call 92; ((with_reducible refine (HYH.out _ HX.out).mono ?_); rintro e' w3 ⟨A1, c1, rfl, hr1, hx⟩; have HX := Lib.hid (HX.out.trans hx); have HR1 := Lib.hid hr1; have hS := HQ3.out _ HX.out; clear hr1 hx))
   | (go_at_call 93; ((with_reducible refine (HRH.out _ HX.out).mono ?_); rintro e' w4 ⟨A2, c2, rfl, hr2, hx⟩; have HX := Lib.hid (HX.out.trans hx); have HR2 := Lib.hid (And.intro (HR1.out.ext hx) hr2); have hS := HQ3.out _ HX.out; clear hr2 hx))
   | (go_at_call 91; ((with_reducible refine (HIT.out _ _ _ _ _ HR2.out.1 HR2.out.2).mono ?_); rintro e' w5 ⟨rfl, hx⟩; have HX := Lib.hid (HX.out.trans hx); have hS := HQ3.out _ HX.out; clear hx)))
 have hae : (aE != aE) = false := by simp
 go_wp2_with fail
 refine (HYB.out _ HX.out).mono ?_
 rintro e' w6 ⟨A6, n6, c6, rfl, hby6, _, hx⟩
 have HX := Lib.hid (HX.out.trans hx)
 have HB6 := Lib.hid hby6
 clear hby6 hx hS hix hcx
 go_wp2_with fail
 refine (HRB.out _ HX.out).mono ?_
 rintro e' w7 ⟨A7, n7, c7, rfl, hby7, hx⟩
 have HX := Lib.hid (HX.out.trans hx)
 have hs := same_by A6 A7 aO aO n6 n7 c6 c7 w7 (HB6.out.ext hx) hby7
 rw [decide_eq_true rfl] at hs
 have HSA := Lib.hid hs
 clear hby7 hx hs HB6
 go_wp2_with fail
 refine HSA.out.mono ?_
 rintro e' w8 ⟨rfl, hx⟩
 have HX := Lib.hid (HX.out.trans hx)
 clear hx hae HSA
 go_wp2_with fail
 go_loopw [9] (fun i wr => ∃ j : Nat, j ≤ 10 ∧ i = .int .i64 ((j : Int) - 1) ∧ Hid (Ext w wr)) (fun i _ => (10 - intOf i).toNat)
 case atStart => exact ⟨0, by omega, by simp, HX⟩
 case round =>
  obtain ⟨j, hj, rfl, HX⟩ := hrel
  obtain ⟨k, hk⟩ : ∃ k : Int, (j : Int) - 1 = k := ⟨_, rfl⟩
  have hk1 : -1 ≤ k ∧ k ≤ 9 := by omega
  obtain ⟨hk1, hk2⟩ := hk1
  have HK := Lib.hid hk
  rw [hk]
  clear hk
  by_cases hlt : k ≤ 8
  ·have hc1 := HYC.out wr k HX.out
   have hcc := HRC.out
   have HCC : Hid (∀ V, Ext w V → Calls Tryz.prog 97 #[.pointer (some ⟨y, 0, none⟩), .int .i64 k] V fun e w' => ∃ A N c, e = .returned (.tuple #[.slice A N c, .int .i64 (cE k)]) ∧ By w' A N c (cO k) ∧ Ext V w') := Lib.hid fun V hV => hcc V k hV
   clear hcc
   generalize cE k = E at *
   generalize cO k = O at *
   have hee : (E != E) = false := by simp
   have HC1 := Lib.hid hc1
   clear hc1
   go_wp2_with fail
   refine HC1.out.mono ?_
   rintro e' w2 ⟨A6, n6, c6, rfl, hby6, _, hx⟩
   have HX := Lib.hid (HX.out.trans hx)
   have HB6 := Lib.hid hby6
   clear hby6 hx
   go_wp2_with fail
   refine (HCC.out _ HX.out).mono ?_
   rintro e' w7 ⟨A7, n7, c7, rfl, hby7, hx⟩
   have HX := Lib.hid (HX.out.trans hx)
   have hs := same_by A6 A7 O O n6 n7 c6 c7 w7 (HB6.out.ext hx) hby7
   rw [decide_eq_true rfl] at hs
   have HSA := Lib.hid hs
   clear hby7 hx hs HB6
   go_wp2_with fail
   refine HSA.out.mono ?_
   rintro e' w8 ⟨rfl, hx⟩
   have HX := Lib.hid (HX.out.trans hx)
   clear hx hee HSA
   go_wp2_with fail
   go_roundw
   case rel => exact ⟨j + 1, by have := HK.out; omega, by have := HK.out; congr 1; omega, HX⟩
   case measure => simp [intOf]; omega
  ·have hlt : 8 < k := by omega
   go_wp2_with fail
   go_ret
   exact ⟨rfl, HX.out⟩
end
section
open Go Go.RowKit
section
variable {w0 w w' : World} {d bf : Nat} {F F' : Nat → Prop} {x : Int × DM}
end
end
section
open Go Go.RowKit Go.Shelf
attribute [local go_sem] Oper.semAt_some
end
section
open Go Go.RowKit Go.Shelf
attribute [local go_sem] Oper.semAt_some
section
variable {w w' : World} {F : Nat → Prop} {g d s : Nat} {r inc i : Int} {bl bi bu bf : Nat}
end
theorem row_keepW {V W : World} {g : Nat} {o : Obj} (k : Hid (Ext V.drew W)) (h : Hid (V.heap[g]? = some o)) : W.heap[g]? = some o := (k.out.block g (Array.getElem?_eq_some_iff.1 h.out).1).trans h.out
theorem keepT5 {V W : World} {b : Nat} {x0 x1 x2 x3 x4 : Value} (k : Hid (Ext V.drew W)) (h : Hid (V.heap[b]? = some (.cells #[x0, x1, x2, x3, x4] 44 (0, 0)))) :
 W.cell? ⟨b, 0, none⟩ = some x0 ∧ W.cell? ⟨b, 1, none⟩ = some x1 ∧ W.cell? ⟨b, 2, none⟩ = some x2 ∧ W.cell? ⟨b, 3, none⟩ = some x3 ∧ W.cell? ⟨b, 4, none⟩ = some x4 := (five_cells (row_keepW k h)).1
theorem new_after2 {V W' : World} {cs : Array Value} {t : TypeId} (h : Ext (V.alloc (.cells cs t)).drew W') : W'.heap[V.heap.size]? = some (.cells cs t (0, 0)) := (h.block _ (by show V.heap.size < (V.alloc _).heap.size; simp)).trans (heap_alloc_new V _)
theorem hid_ad {V : World} (o : Obj) : Hid (Ext V.drew (V.alloc o).drew) := Lib.hid (show Ext V.drew (V.drew.alloc o) from (Ext.refl V.drew).alloc o)
theorem wrs_waits {m : DM} {E S : Int} {L : List Nat} : ∀ k, (wrsE (E, m) S L k).2.waits.length ≤ m.waits.length + k
 | 0 => by simp [wrsE]
 | k + 1 => by
  have ih := wrs_waits (m := m) (E := E) (S := S) (L := L) k
  show (unE (wrsE (E, m) S L k) _).2.waits.length ≤ _
  unfold unE
  split
  ·have : ∀ (m : DM) (s : Int) (b : List Nat), (m.write s b).2.waits.length ≤ m.waits.length + 1 := fun m s b => by
    unfold DM.write
    split
    ·simp
    ·split
     ·simp
     ·split <;> simp
   exact Nat.le_trans (this (wrsE (E, m) S L k).2 (S + (k : Int)) ((L.drop (64 * k)).take 64)) (by omega)
  ·omega
end
section
open Go Go.RowKit
theorem setCells_eq (g : Nat) : ∀ (vs : List Value) (w : World) (o : Nat), w.setCells g o vs = setL w g o vs
 | [], _, _ => rfl
 | _ :: vs, _, o => setCells_eq g vs _ (o + 1)
theorem there_row {w : World} {g : Nat} {cs : Array Value} {t : TypeId} (h : w.heap[g]? = some (.cells cs t (0, 0))) (o n : Nat) (hn : o + n ≤ cs.size) : w.there g o n := fun j hj => by
 refine ⟨?_, frozen_of_row w g (o + j) _ _ h⟩
 rw [cell_of_row w g (o + j) _ _ _ h, Array.getElem?_eq_getElem (by omega)]
 rfl
theorem row_setCells {w : World} {g : Nat} {cs : Array Value} {t : TypeId} (h : w.heap[g]? = some (.cells cs t (0, 0))) (o : Nat) (vs : List Value) : (w.setCells g o vs).heap[g]? = some (.cells (setA cs o vs) t (0, 0)) := by
 rw [setCells_eq]
 exact row_setL vs w o cs h
theorem ext_setCells {a w : World} (h : Ext a w) {g : Nat} (hg : a.heap.size ≤ g) (o : Nat) (vs : List Value) : Ext a (w.setCells g o vs) := by
 rw [setCells_eq]
 exact ext_setL h hg vs o
end
end Go.Proofs.YtmpaocpgoihliaaGreatDoor
