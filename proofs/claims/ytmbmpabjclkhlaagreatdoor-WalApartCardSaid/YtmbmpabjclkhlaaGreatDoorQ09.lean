/-
  Plain facts on entries, without any program: which are valid; their bytes; what is read at a place of bytes.
-/
import Derived.Test.YtmbmpabjclkhlaaGreatDoorQ00
import Derived.Test.YtmbmpabjclkhlaaGreatDoorQ01
import Derived.Test.YtmbmpabjclkhlaaGreatDoorQ07
import Derived.Test.YtmbmpabjclkhlaaGreatDoorQ08
import Derived.Deep.RegionHeld3
import Derived.LoopN
namespace Go.Proofs.YtmbmpabjclkhlaaGreatDoor
set_option maxRecDepth 100000
section
open Go
theorem str_blE (s : ByteArray) : str (bl s) = s := by
  unfold str bl
  rw [List.map_map]
  have e : ((UInt8.ofNat ∘ UInt8.toNat) : UInt8 → UInt8) = id := by
    funext u
    simp
  rw [e, List.map_id]
structure Ent where
  k : Nat := 0
  cl : Int := 0
  sq : Int := 0
  ok : Nat := 0
  key : ByteArray := ByteArray.empty
  old : ByteArray := ByteArray.empty
  val : ByteArray := ByteArray.empty
instance : Inhabited Ent := ⟨{}⟩
def opOk (ok : Nat) (key old val : ByteArray) : Bool :=
  decide (1 ≤ key.size ∧ key.size ≤ 8 ∧ old.size ≤ 16 ∧ val.size ≤ 16 ∧ (((ok = 1 ∨ ok = 3) ∧ old.size = 0 ∧ val.size = 0) ∨ (ok = 2 ∧ old.size = 0) ∨ ok = 4))
theorem opOk_iff {ok : Nat} {key old val : ByteArray} : opOk ok key old val = true ↔ (1 ≤ key.size ∧ key.size ≤ 8 ∧ old.size ≤ 16 ∧ val.size ≤ 16 ∧ (((ok = 1 ∨ ok = 3) ∧ old.size = 0 ∧ val.size = 0) ∨ (ok = 2 ∧ old.size = 0) ∨ ok = 4)) := by unfold opOk; exact decide_eq_true_iff
def enOk (e : Ent) : Bool :=
  decide ((e.k = 1 ∧ e.cl = 0 ∧ e.sq = 0 ∧ e.ok = 0 ∧ e.key.size = 0 ∧ e.old.size = 0 ∧ e.val.size = 0) ∨ (e.k = 2 ∧ 0 ≤ e.cl ∧ e.cl ≤ 3 ∧ 1 ≤ e.sq ∧ e.sq ≤ 1099511627776 ∧ opOk e.ok e.key e.old e.val = true ∧ e.ok ≠ 1))
theorem enOk_iff {e : Ent} : enOk e = true ↔ ((e.k = 1 ∧ e.cl = 0 ∧ e.sq = 0 ∧ e.ok = 0 ∧ e.key.size = 0 ∧ e.old.size = 0 ∧ e.val.size = 0) ∨ (e.k = 2 ∧ 0 ≤ e.cl ∧ e.cl ≤ 3 ∧ 1 ≤ e.sq ∧ e.sq ≤ 1099511627776 ∧ opOk e.ok e.key e.old e.val = true ∧ e.ok ≠ 1)) := by unfold enOk; exact decide_eq_true_iff
theorem size_zero {s : ByteArray} (h : s.size = 0) : s = ByteArray.empty := by
  obtain ⟨⟨l⟩⟩ := s
  have h' : l.length = 0 := h
  rw [List.eq_nil_of_length_eq_zero h']
  rfl
def tx (s : ByteArray) : List Nat := s.size :: bl s
theorem tx_length (s : ByteArray) : (tx s).length = 1 + s.size := by unfold tx; rw [List.length_cons, bl_length]; omega
def enL (e : Ent) : List Nat := if e.k = 1 then [1] else [2, e.cl.toNat] ++ digs 6 e.sq.toNat ++ [e.ok] ++ tx e.key ++ tx e.old ++ tx e.val
theorem enL_len {e : Ent} (h : enOk e = true) : 1 ≤ (enL e).length ∧ (enL e).length ≤ 52 := by
  unfold enL
  split
  · simp
  · rcases enOk_iff.1 h with h | ⟨_, _, _, _, _, h, _⟩
    · omega
    · have := opOk_iff.1 h
      simp only [List.length_append, List.length_cons, List.length_nil, digs_length, tx_length]
      omega
theorem enL_lt {e : Ent} (h : enOk e = true) : ∀ x ∈ enL e, x < 256 := by
  unfold enL
  split
  · intro x hx; simp at hx; omega
  · rcases enOk_iff.1 h with h | ⟨_, _, h1, _, _, h, _⟩
    · omega
    · have hop := opOk_iff.1 h
      intro x hx
      simp only [List.mem_append, List.mem_cons, List.not_mem_nil, or_false, tx] at hx
      rcases hx with ((((hx | hx) | hx) | hx) | hx) | hx
      · omega
      · exact digs_lt _ _ _ hx
      · omega
      · rcases hx with hx | hx
        · omega
        · exact bl_lt _ _ hx
      · rcases hx with hx | hx
        · omega
        · exact bl_lt _ _ hx
      · rcases hx with hx | hx
        · omega
        · exact bl_lt _ _ hx
def rdT (l : List Nat) (a : Nat) : Option (ByteArray × Nat) := if (readS l (a : Int)).2.2 = 0 then some (str (readS l (a : Int)).1, (readS l (a : Int)).2.1) else none
theorem rdT_some {l : List Nat} {a n : Nat} (h : l[a]? = some n) (hn : a + 1 + n ≤ l.length) : rdT l a = some (str ((l.drop (a + 1)).take n), a + 1 + n) := by
  unfold rdT readS
  rw [getS_one h]
  have hq : ¬ (l.length - (a + 1) < n) := by omega
  simp [hq]
theorem rdT_inv {l : List Nat} {a b : Nat} {s : ByteArray} (ha : a ≤ l.length) (h : rdT l a = some (s, b)) : ∃ n, l[a]? = some n ∧ a + 1 + n ≤ l.length ∧ s = str ((l.drop (a + 1)).take n) ∧ b = a + 1 + n := by
  by_cases hlt : a < l.length
  · have hx : l[a]? = some l[a] := List.getElem?_eq_getElem hlt
    refine ⟨l[a], hx, ?_⟩
    by_cases hn : a + 1 + l[a] ≤ l.length
    · rw [rdT_some hx hn] at h
      injection h with h
      injection h with h1 h2
      exact ⟨hn, h1.symm, h2.symm⟩
    · exfalso
      unfold rdT readS at h
      rw [getS_one hx] at h
      have hq : l.length - (a + 1) < l[a] := by omega
      simp [hq] at h
  · exfalso
    have he : a = l.length := by omega
    subst he
    unfold rdT readS at h
    rw [getS_short (by rfl) (by omega) (by omega) (by omega)] at h
    simp at h
def enRaw (l : List Nat) (a : Nat) : Option (Ent × Nat) :=
  if l[a]? = some 1 then some ({ k := 1 }, a + 1) else
  if l[a]? = some 2 ∧ a + 9 ≤ l.length then
    (rdT l (a + 9)).bind fun x => (rdT l x.2).bind fun y => (rdT l y.2).map fun z =>
      ({ k := 2, cl := (l.getD (a + 1) 0 : Nat), sq := (num ((l.drop (a + 2)).take 6) : Nat), ok := l.getD (a + 8) 0, key := x.1, old := y.1, val := z.1 }, z.2)
  else none
def enR (l : List Nat) (a : Nat) : Option (Ent × Nat) := (enRaw l a).bind fun x => if enOk x.1 = true then some x else none
theorem tx_at (l1 l3 : List Nat) (s : ByteArray) : (l1 ++ tx s ++ l3)[l1.length]? = some s.size := by
  rw [List.append_assoc, List.getElem?_append_right (Nat.le_refl _), Nat.sub_self]
  rfl
theorem rdT_tx (l1 l3 : List Nat) (s : ByteArray) {a : Nat} (ha : a = l1.length) : rdT (l1 ++ tx s ++ l3) a = some (s, a + (tx s).length) := by
  subst ha
  have hl := tx_length s
  rw [rdT_some (tx_at l1 l3 s) (by simp only [List.length_append]; omega)]
  have hd : ((l1 ++ tx s ++ l3).drop (l1.length + 1)).take s.size = bl s := by
    rw [List.append_assoc, ← List.drop_drop, List.drop_left]
    show ((bl s ++ l3)).take s.size = bl s
    rw [List.take_append_of_le_length (by rw [bl_length]; exact Nat.le_refl _), List.take_of_length_le (by rw [bl_length]; exact Nat.le_refl _)]
  rw [hd, str_blE, hl]
  congr 1
  congr 1
  omega
theorem en_back {e : Ent} (h : enOk e = true) (l1 l3 : List Nat) : enR (l1 ++ enL e ++ l3) l1.length = some (e, l1.length + (enL e).length) := by
  have hraw : enRaw (l1 ++ enL e ++ l3) l1.length = some (e, l1.length + (enL e).length) := by
    rcases enOk_iff.1 h with ⟨hk, h1, h2, h3, h4, h5, h6⟩ | ⟨hk, h1, h2, h3, h4, h5, h6⟩
    · have he : e = { k := 1 } := by
        obtain ⟨k, cl, sq, ok, key, old, val⟩ := e
        dsimp only at hk h1 h2 h3 h4 h5 h6
        subst hk h1 h2 h3
        rw [size_zero h4, size_zero h5, size_zero h6]
      subst he
      unfold enRaw enL
      rw [if_pos (by rw [if_pos rfl, List.append_assoc, List.getElem?_append_right (Nat.le_refl _), Nat.sub_self]; rfl)]
      rfl
    · have hop := opOk_iff.1 h5
      obtain ⟨cn, hcn⟩ := Int.eq_ofNat_of_zero_le h1
      obtain ⟨sn, hsn⟩ := Int.eq_ofNat_of_zero_le (show 0 ≤ e.sq by omega)
      have hL : enL e = [2, cn] ++ digs 6 sn ++ [e.ok] ++ tx e.key ++ tx e.old ++ tx e.val := by
        unfold enL
        rw [if_neg (by omega), hcn, hsn]
        rfl
      have hd6 := digs_length 6 sn
      have hfst : ∀ (i x : Nat), ([2, cn] ++ digs 6 sn ++ [e.ok])[i]? = some x → (l1 ++ enL e ++ l3)[l1.length + i]? = some x := fun i x hx => by
        have hi : i < ([2, cn] ++ digs 6 sn ++ [e.ok]).length := (List.getElem?_eq_some_iff.1 hx).1
        rw [hL, List.append_assoc, List.getElem?_append_right (by omega), Nat.add_sub_cancel_left, List.append_assoc, List.append_assoc, List.append_assoc, List.getElem?_append_left hi]
        exact hx
      have a0 := hfst 0 2 rfl
      have a1 := hfst 1 cn rfl
      have a8 : (l1 ++ enL e ++ l3)[l1.length + 8]? = some e.ok := hfst 8 e.ok (by rw [List.getElem?_append_right (by simp [hd6])]; simp [hd6])
      have hlen : (enL e).length = 9 + ((tx e.key).length + ((tx e.old).length + (tx e.val).length)) := by rw [hL]; simp only [List.length_append, List.length_cons, List.length_nil, hd6]; omega
      have htot : (l1 ++ enL e ++ l3).length = l1.length + (enL e).length + l3.length := by simp only [List.length_append]
      have r1 : rdT (l1 ++ enL e ++ l3) (l1.length + 9) = some (e.key, l1.length + 9 + (tx e.key).length) := by
        have := rdT_tx (l1 ++ ([2, cn] ++ digs 6 sn ++ [e.ok])) (tx e.old ++ tx e.val ++ l3) e.key (a := l1.length + 9) (by simp [hd6])
        rw [← this, hL]
        congr 1
        simp only [List.append_assoc]
      have r2 : rdT (l1 ++ enL e ++ l3) (l1.length + 9 + (tx e.key).length) = some (e.old, l1.length + 9 + (tx e.key).length + (tx e.old).length) := by
        have := rdT_tx (l1 ++ ([2, cn] ++ digs 6 sn ++ [e.ok]) ++ tx e.key) (tx e.val ++ l3) e.old (a := l1.length + 9 + (tx e.key).length) (by simp [hd6]; omega)
        rw [← this, hL]
        congr 1
        simp only [List.append_assoc]
      have r3 : rdT (l1 ++ enL e ++ l3) (l1.length + 9 + (tx e.key).length + (tx e.old).length) = some (e.val, l1.length + 9 + (tx e.key).length + (tx e.old).length + (tx e.val).length) := by
        have := rdT_tx (l1 ++ ([2, cn] ++ digs 6 sn ++ [e.ok]) ++ tx e.key ++ tx e.old) l3 e.val (a := l1.length + 9 + (tx e.key).length + (tx e.old).length) (by simp [hd6]; omega)
        rw [← this, hL]
        congr 1
        simp only [List.append_assoc]
      have hsq : ((l1 ++ enL e ++ l3).drop (l1.length + 2)).take 6 = digs 6 sn := by
        rw [hL]
        have : l1 ++ ([2, cn] ++ digs 6 sn ++ [e.ok] ++ tx e.key ++ tx e.old ++ tx e.val) ++ l3 = (l1 ++ [2, cn]) ++ (digs 6 sn ++ ([e.ok] ++ tx e.key ++ tx e.old ++ tx e.val ++ l3)) := by simp only [List.append_assoc]
        rw [this, show l1.length + 2 = (l1 ++ [2, cn]).length by simp, List.drop_left, List.take_append_of_le_length (by omega), List.take_of_length_le (by omega)]
      unfold enRaw
      rw [if_neg (by rw [show (l1 ++ enL e ++ l3)[l1.length]? = some 2 from a0]; simp), if_pos ⟨a0, by rw [htot, hlen]; omega⟩, r1]
      simp only [Option.bind_some]
      rw [r2]
      simp only [Option.bind_some]
      rw [r3]
      simp only [Option.map_some]
      rw [hsq, num_digs 6 sn (by omega), List.getD_eq_getElem?_getD, List.getD_eq_getElem?_getD, a1, a8, hlen]
      congr 1
      refine Prod.ext ?_ (by simp only; omega)
      obtain ⟨k, cl, sq, ok, key, old, val⟩ := e
      dsimp only at hk hcn hsn ⊢
      subst hk hcn hsn
      rfl
  unfold enR
  rw [hraw]
  simp [h]
theorem take_one {l : List Nat} {p x : Nat} (h : l[p]? = some x) : (l.drop p).take 1 = [x] := by
  obtain ⟨hp, hx⟩ := List.getElem?_eq_some_iff.1 h
  rw [List.drop_eq_getElem_cons hp, hx]
  rfl
theorem getD_some {l : List Nat} {p : Nat} (h : p < l.length) : l[p]? = some (l.getD p 0) := by
  rw [List.getD_eq_getElem?_getD, List.getElem?_eq_getElem h]
  rfl
end
section
open Go
def balE (x y : Int) : Bool := decide (1 ≤ x ∧ x ≤ 1099511627776 ∧ 0 ≤ y ∧ y ≤ 6)
theorem balE_iff {x y : Int} : balE x y = true ↔ (1 ≤ x ∧ x ≤ 1099511627776 ∧ 0 ≤ y ∧ y ≤ 6) := by unfold balE; exact decide_eq_true_iff
def bodyL (x y : Int) (e : Ent) : List Nat := digs 6 x.toNat ++ [y.toNat] ++ enL e
theorem bodyL_len {x y : Int} {e : Ent} (h : enOk e = true) : 8 ≤ (bodyL x y e).length ∧ (bodyL x y e).length ≤ 59 := by
  have := enL_len h
  unfold bodyL
  simp only [List.length_append, List.length_cons, List.length_nil, digs_length]
  omega
theorem bodyL_lt {x y : Int} {e : Ent} (h : enOk e = true) (hb : balE x y = true) : ∀ z ∈ bodyL x y e, z < 256 := by
  have hb := balE_iff.1 hb
  intro z hz
  unfold bodyL at hz
  simp only [List.mem_append, List.mem_singleton] at hz
  rcases hz with (hz | hz) | hz
  · exact digs_lt _ _ _ hz
  · omega
  · exact enL_lt h _ hz
def bdR (l : List Nat) : Option (Nat × Nat × Ent) :=
  if l.length < 7 then none else (enR l 7).bind fun r => if r.2 = l.length ∧ balE (num (l.take 6) : Nat) (l.getD 6 0 : Nat) = true then some (num (l.take 6), l.getD 6 0, r.1) else none
theorem bd_back {x y : Int} {e : Ent} (h : enOk e = true) (hb : balE x y = true) : ∃ a b : Nat, x = a ∧ y = b ∧ bdR (bodyL x y e) = some (a, b, e) := by
  have hbb := balE_iff.1 hb
  obtain ⟨a, rfl⟩ := Int.eq_ofNat_of_zero_le (show 0 ≤ x by omega)
  obtain ⟨b, rfl⟩ := Int.eq_ofNat_of_zero_le (show 0 ≤ y by omega)
  refine ⟨a, b, rfl, rfl, ?_⟩
  have hlen := bodyL_len (x := (a : Int)) (y := (b : Int)) h
  have h7 : (digs 6 a ++ [b]).length = 7 := by simp [digs_length]
  have hL : bodyL (a : Int) (b : Int) e = (digs 6 a ++ [b]) ++ enL e ++ [] := by unfold bodyL; simp
  have hr : enR (bodyL (a : Int) (b : Int) e) 7 = some (e, (bodyL (a : Int) (b : Int) e).length) := by
    have := en_back h (digs 6 a ++ [b]) []
    rw [← hL, h7] at this
    rw [this, hL]
    simp only [List.append_nil, List.length_append, h7]
  have ht : (bodyL (a : Int) (b : Int) e).take 6 = digs 6 a := by
    unfold bodyL
    rw [List.append_assoc, List.take_append_of_le_length (by rw [digs_length]; exact Nat.le_refl _), List.take_of_length_le (by rw [digs_length]; exact Nat.le_refl _)]
    rfl
  have h6 : (bodyL (a : Int) (b : Int) e).getD 6 0 = b := by
    rw [List.getD_eq_getElem?_getD]
    unfold bodyL
    rw [List.append_assoc, List.getElem?_append_right (by rw [digs_length]; exact Nat.le_refl _), digs_length]
    rfl
  unfold bdR
  rw [if_neg (by omega), hr]
  simp only [Option.bind_some]
  rw [ht, h6, num_digs 6 a (by omega)]
  simp [hb]
end
section
open Go
def recB (x y h : Int) : Bool := balE x y && decide (h = 0 ∨ h = 1)
theorem recB_iff {x y h : Int} : recB x y h = true ↔ (1 ≤ x ∧ x ≤ 1099511627776 ∧ 0 ≤ y ∧ y ≤ 6) ∧ (h = 0 ∨ h = 1) := by
  unfold recB
  rw [Bool.and_eq_true, balE_iff, decide_eq_true_iff]
def recL (x y h : Int) : List Nat := digs 6 x.toNat ++ [y.toNat] ++ [h.toNat]
theorem recL_length (x y h : Int) : (recL x y h).length = 8 := by unfold recL; simp [digs_length]
theorem recL_lt {x y h : Int} (hb : recB x y h = true) : ∀ z ∈ recL x y h, z < 256 := by
  have hb := recB_iff.1 hb
  intro z hz
  unfold recL at hz
  simp only [List.mem_append, List.mem_singleton] at hz
  rcases hz with (hz | hz) | hz
  · exact digs_lt _ _ _ hz
  · omega
  · omega
def recR (l : List Nat) : Option (Nat × Nat × Nat) :=
  if l.length = 8 ∧ l.getD 7 0 ≤ 1 ∧ balE (num (l.take 6) : Nat) (l.getD 6 0 : Nat) = true then some (num (l.take 6), l.getD 6 0, l.getD 7 0) else none
theorem recR_some {l : List Nat} {x y h : Nat} (hr : recR l = some (x, y, h)) : l.length = 8 ∧ h ≤ 1 ∧ balE (x : Nat) (y : Nat) = true ∧ num (l.take 6) = x ∧ l[6]? = some y ∧ l[7]? = some h := by
  unfold recR at hr
  split at hr
  · rename_i hc
    injection hr with hr
    injection hr with h1 hr
    injection hr with h2 h3
    subst h1 h2 h3
    exact ⟨hc.1, hc.2.1, hc.2.2, rfl, getD_some (by omega), getD_some (by omega)⟩
  · cases hr
theorem rec_back {x y h : Int} (hb : recB x y h = true) : ∃ a b c : Nat, x = a ∧ y = b ∧ h = c ∧ recR (recL x y h) = some (a, b, c) := by
  have hbb := recB_iff.1 hb
  obtain ⟨a, rfl⟩ := Int.eq_ofNat_of_zero_le (show 0 ≤ x by omega)
  obtain ⟨b, rfl⟩ := Int.eq_ofNat_of_zero_le (show 0 ≤ y by omega)
  obtain ⟨c, rfl⟩ := Int.eq_ofNat_of_zero_le (show 0 ≤ h by omega)
  refine ⟨a, b, c, rfl, rfl, rfl, ?_⟩
  have ht : (recL (a : Int) (b : Int) (c : Int)).take 6 = digs 6 a := by
    unfold recL
    rw [List.append_assoc, List.take_append_of_le_length (by rw [digs_length]; exact Nat.le_refl _), List.take_of_length_le (by rw [digs_length]; exact Nat.le_refl _)]
    rfl
  have h6 : (recL (a : Int) (b : Int) (c : Int)).getD 6 0 = b := by
    rw [List.getD_eq_getElem?_getD]
    unfold recL
    rw [List.append_assoc, List.getElem?_append_right (by rw [digs_length]; exact Nat.le_refl _), digs_length]
    rfl
  have h7 : (recL (a : Int) (b : Int) (c : Int)).getD 7 0 = c := by
    rw [List.getD_eq_getElem?_getD]
    unfold recL
    rw [List.append_assoc, List.getElem?_append_right (by rw [digs_length]; omega), digs_length]
    rfl
  unfold recR
  have hbal : balE (a : Int) (b : Int) = true := balE_iff.2 hbb.1
  rw [recL_length, ht, h6, h7, num_digs 6 a (by omega), if_pos ⟨rfl, by omega, hbal⟩]
def rcR (l : List Nat) : Nat × Nat × Nat × Int := match recR l with | some (x, y, h) => (x, y, h, 0) | none => (0, 0, 0, 90)
theorem rcR_some {l : List Nat} {x y h : Nat} (hr : recR l = some (x, y, h)) : rcR l = (x, y, h, 0) := by unfold rcR; rw [hr]
theorem rcR_none {l : List Nat} (hr : recR l = none) : rcR l = (0, 0, 0, 90) := by unfold rcR; rw [hr]
theorem recR_len {l : List Nat} (h : l.length ≠ 8) : recR l = none := if_neg fun hc => h hc.1
theorem recR_which {l : List Nat} {h : Nat} (h7 : l[7]? = some h) (h1 : 1 < h) : recR l = none := by
  unfold recR
  rw [if_neg]
  rintro ⟨_, h2, _⟩
  rw [List.getD_eq_getElem?_getD, h7] at h2
  simp at h2
  omega
theorem recR_bal {l : List Nat} {y : Nat} (h6 : l[6]? = some y) (hb : balE (num (l.take 6) : Nat) (y : Nat) = false) : recR l = none := by
  unfold recR
  rw [if_neg]
  rintro ⟨_, _, h2⟩
  rw [List.getD_eq_getElem?_getD, h6] at h2
  simp only [Option.getD_some] at h2
  rw [hb] at h2
  cases h2
theorem recR_yes {l : List Nat} {y h : Nat} (h8 : l.length = 8) (h6 : l[6]? = some y) (h7 : l[7]? = some h) (h1 : h ≤ 1) (hb : balE (num (l.take 6) : Nat) (y : Nat) = true) : recR l = some (num (l.take 6), y, h) := by
  unfold recR
  rw [show l.getD 6 0 = y from by rw [List.getD_eq_getElem?_getD, h6]; rfl, show l.getD 7 0 = h from by rw [List.getD_eq_getElem?_getD, h7]; rfl, if_pos ⟨h8, h1, hb⟩]
end
section
open Go
structure Rec where
  st : Nat := 0
  ix : Int := 0
  bx : Int := 0
  yb : Int := 0
  wh : Int := 0
instance : Inhabited Rec := ⟨{}⟩
structure CopL where
  st : Nat := 0
  ix : Int := 0
  bx : Int := 0
  yb : Int := 0
  e : Ent := {}
instance : Inhabited CopL := ⟨{}⟩
def Rec.of (p : Rec) (i : Int) : Prop := p.st = 1 ∧ p.ix = i
def CopL.of (c : CopL) (i : Int) : Prop := c.st = 1 ∧ c.ix = i
def gtL (x y a b : Int) : Prop := a < x ∨ (a = x ∧ b < y)
instance (p : Rec) (i : Int) : Decidable (p.of i) := by unfold Rec.of; exact inferInstance
instance (c : CopL) (i : Int) : Decidable (c.of i) := by unfold CopL.of; exact inferInstance
instance (x y a b : Int) : Decidable (gtL x y a b) := by unfold gtL; exact inferInstance
def beyL (p : Rec) (f0 f1 : CopL) (i : Int) : Prop := (p.st = 1 ∧ i < p.ix) ∨ (f0.st = 1 ∧ i < f0.ix) ∨ (f1.st = 1 ∧ i < f1.ix)
def badL (f0 f1 : CopL) : Prop := f0.st = 2 ∨ f1.st = 2
instance (p : Rec) (f0 f1 : CopL) (i : Int) : Decidable (beyL p f0 f1 i) := by unfold beyL; exact inferInstance
instance (f0 f1 : CopL) : Decidable (badL f0 f1) := by unfold badL; exact inferInstance
def candL (p : Rec) (c : CopL) (i : Int) : Prop := c.of i ∧ ¬ gtL p.bx p.yb c.bx c.yb
instance (p : Rec) (c : CopL) (i : Int) : Decidable (candL p c i) := by unfold candL; exact inferInstance
def pickW (a b h : Prop) [Decidable a] [Decidable b] [Decidable h] : Int := if a ∧ b then (if h then 1 else 0) else if a then 0 else if b then 1 else -1
def whereL (p : Rec) (f0 f1 : CopL) (i : Int) : Int :=
  if p.of i then (if p.wh = 1 then pickW (candL p f0 i) (candL p f1 i) (¬ gtL f0.bx f0.yb f1.bx f1.yb) else pickW (candL p f0 i) (candL p f1 i) (gtL f1.bx f1.yb f0.bx f0.yb))
  else if beyL p f0 f1 i ∨ (p.st = 2 ∧ badL f0 f1) then -1
  else pickW (f0.of i) (f1.of i) (gtL f1.bx f1.yb f0.bx f0.yb)
def classL (p : Rec) (f0 f1 : CopL) (i : Int) : Nat :=
  if 0 ≤ whereL p f0 f1 i then 3 else if p.of i then 2 else if beyL p f0 f1 i ∨ (p.st = 2 ∧ badL f0 f1) then 2 else if badL f0 f1 then 1 else 0
def nextL (p : Rec) (f0 f1 : CopL) (i : Int) : Int :=
  if 0 ≤ whereL p f0 f1 i then 1 - whereL p f0 f1 i else if p.st = 1 ∧ p.wh = 0 then 1 else 0
def cop (f0 f1 : CopL) (k : Int) : CopL := if k = 0 then f0 else f1
def repX (p : Rec) (f0 f1 : CopL) (i : Int) : Int := if 0 ≤ whereL p f0 f1 i then (cop f0 f1 (whereL p f0 f1 i)).bx else if p.of i then p.bx else 0
def repY (p : Rec) (f0 f1 : CopL) (i : Int) : Int := if 0 ≤ whereL p f0 f1 i then (cop f0 f1 (whereL p f0 f1 i)).yb else if p.of i then p.yb else 0
def repE (p : Rec) (f0 f1 : CopL) (i : Int) : Ent := if 0 ≤ whereL p f0 f1 i then (cop f0 f1 (whereL p f0 f1 i)).e else {}
theorem pickW_cases {a b h : Prop} [Decidable a] [Decidable b] [Decidable h] : (pickW a b h = -1 ∧ ¬ a ∧ ¬ b) ∨ (pickW a b h = 0 ∧ a ∧ (b → ¬ h)) ∨ (pickW a b h = 1 ∧ b ∧ (a → h)) := by
  unfold pickW
  by_cases ha : a <;> by_cases hb : b <;> by_cases hh : h <;> simp [ha, hb, hh]
theorem whereL_of {p : Rec} {f0 f1 : CopL} {i : Int} : (whereL p f0 f1 i = -1) ∨ (whereL p f0 f1 i = 0 ∧ f0.of i) ∨ (whereL p f0 f1 i = 1 ∧ f1.of i) := by
  unfold whereL
  split
  · split
    · rcases pickW_cases (a := candL p f0 i) (b := candL p f1 i) (h := ¬ gtL f0.bx f0.yb f1.bx f1.yb) with h | h | h
      · exact .inl h.1
      · exact .inr (.inl ⟨h.1, h.2.1.1⟩)
      · exact .inr (.inr ⟨h.1, h.2.1.1⟩)
    · rcases pickW_cases (a := candL p f0 i) (b := candL p f1 i) (h := gtL f1.bx f1.yb f0.bx f0.yb) with h | h | h
      · exact .inl h.1
      · exact .inr (.inl ⟨h.1, h.2.1.1⟩)
      · exact .inr (.inr ⟨h.1, h.2.1.1⟩)
  · split
    · exact .inl rfl
    · rcases pickW_cases (a := f0.of i) (b := f1.of i) (h := gtL f1.bx f1.yb f0.bx f0.yb) with h | h | h
      · exact .inl h.1
      · exact .inr (.inl ⟨h.1, h.2.1⟩)
      · exact .inr (.inr ⟨h.1, h.2.1⟩)
theorem nextL_two (p : Rec) (f0 f1 : CopL) (i : Int) : (nextL p f0 f1 i = 0 ∨ nextL p f0 f1 i = 1) ∧ (0 ≤ whereL p f0 f1 i → nextL p f0 f1 i ≠ whereL p f0 f1 i) := by
  unfold nextL
  rcases whereL_of (p := p) (f0 := f0) (f1 := f1) (i := i) with h | ⟨h, _⟩ | ⟨h, _⟩ <;> rw [h]
  · rw [if_neg (by omega)]
    split <;> simp
  · simp
  · simp
theorem classL_three {p : Rec} {f0 f1 : CopL} {i : Int} : classL p f0 f1 i = 3 ↔ 0 ≤ whereL p f0 f1 i := by
  unfold classL
  by_cases h : 0 ≤ whereL p f0 f1 i
  · simp [h]
  · simp only [h, if_false]
    constructor
    · intro hh
      split at hh
      · omega
      · split at hh
        · omega
        · split at hh <;> omega
    · intro hh
      cases hh
end
section
open Go Go.RowKit
theorem otherL_of (k : Int) (hk : k = 0 ∨ k = 1) (w : World) : Calls Tryz.prog 145 #[.int .i64 k] w fun e w' => e = .returned (.int .i64 (1 - k)) ∧ w' = w := by
  rcases hk with rfl | rfl
  · go_enter Tryz.func145, Tryz.ntmps145
    go_wp2
    go_ret
    exact ⟨rfl, rfl⟩
  · go_enter Tryz.func145, Tryz.ntmps145
    go_wp2
    go_ret
    exact ⟨rfl, rfl⟩
theorem isFrame_of (k : Int) (hk : k = 0 ∨ k = 1) (w : World) : Calls Tryz.prog 222 #[.int .i64 k] w fun e w' => e = .returned (.bool true) ∧ w' = w := by
  rcases hk with rfl | rfl
  · go_enter Tryz.func222, Tryz.ntmps222
    go_wp2
    go_ret
    exact ⟨rfl, rfl⟩
  · go_enter Tryz.func222, Tryz.ntmps222
    go_wp2
    go_ret
    exact ⟨rfl, rfl⟩
theorem isFor_of (st ix i : Int) (w : World) : Calls Tryz.prog 261 #[.int .u8 st, .int .i64 ix, .int .i64 i] w fun e w' => e = .returned (.bool (st == 1 && ix == i)) ∧ w' = w := by
  obtain ⟨b, hb⟩ : ∃ b, (st == 1) = b := ⟨_, rfl⟩
  obtain ⟨c, hc⟩ : ∃ c, (ix == i) = c := ⟨_, rfl⟩
  rw [hb, hc]
  cases b <;>
  · go_enter Tryz.func261, Tryz.ntmps261
    go_wp2
    go_ret
    exact ⟨rfl, rfl⟩
theorem isBadL_of (st : Int) (w : World) : Calls Tryz.prog 264 #[.int .u8 st] w fun e w' => e = .returned (.bool (st != 0 && st != 1)) ∧ w' = w := by
  obtain ⟨b, hb⟩ : ∃ b, (st != 0) = b := ⟨_, rfl⟩
  obtain ⟨c, hc⟩ : ∃ c, (st != 1) = c := ⟨_, rfl⟩
  rw [hb, hc]
  cases b <;>
  · go_enter Tryz.func264, Tryz.ntmps264
    go_wp2
    go_ret
    exact ⟨rfl, rfl⟩
theorem isNaN_of (x : Int) (w : World) : Calls Tryz.prog 297 #[.int .i64 x] w fun e w' => e = .returned (.bool false) ∧ w' = w := by
  go_enter Tryz.func297, Tryz.ntmps297
  go_wp2
  go_ret
  exact ⟨by simp, rfl⟩
def cmpI (x y : Int) : Int := if x < y then -1 else if y < x then 1 else 0
theorem cmpI_cases (x y : Int) : (cmpI x y = -1 ∧ x < y) ∨ (cmpI x y = 0 ∧ x = y) ∨ (cmpI x y = 1 ∧ y < x) := by
  unfold cmpI
  by_cases h : x < y
  · exact .inl ⟨if_pos h, h⟩
  · rw [if_neg h]
    by_cases h2 : y < x
    · exact .inr (.inr ⟨if_pos h2, h2⟩)
    · exact .inr (.inl ⟨if_neg h2, by omega⟩)
theorem compare_of (x y : Int) (w : World) : Calls Tryz.prog 291 #[.int .i64 x, .int .i64 y] w fun e w' => e = .returned (.int .i64 (cmpI x y)) ∧ w' = w := by
  have HN := Lib.hid isNaN_of
  obtain ⟨z, hz⟩ : ∃ z, cmpI x y = z := ⟨_, rfl⟩
  have hc := cmpI_cases x y
  rw [hz] at hc ⊢
  clear hz
  rcases hc with ⟨rfl, h⟩ | ⟨rfl, h⟩ | ⟨rfl, h⟩
  · have h1 : decide (x < y) = true := decide_eq_true h
    go_enter Tryz.func291, Tryz.ntmps291
    go_wp2_with fail
    refine (HN.out _ _).mono ?_
    rintro e w1 ⟨rfl, rfl⟩
    go_wp2_with fail
    refine (HN.out _ _).mono ?_
    rintro e w1 ⟨rfl, rfl⟩
    go_wp2_with fail
    go_ret
    exact ⟨rfl, rfl⟩
  · subst h
    go_enter Tryz.func291, Tryz.ntmps291
    go_wp2_with fail
    refine (HN.out _ _).mono ?_
    rintro e w1 ⟨rfl, rfl⟩
    go_wp2_with fail
    refine (HN.out _ _).mono ?_
    rintro e w1 ⟨rfl, rfl⟩
    go_wp2_with fail
    go_ret
    exact ⟨rfl, rfl⟩
  · have h1 : ¬ x < y := by omega
    go_enter Tryz.func291, Tryz.ntmps291
    go_wp2_with fail
    refine (HN.out _ _).mono ?_
    rintro e w1 ⟨rfl, rfl⟩
    go_wp2_with fail
    refine (HN.out _ _).mono ?_
    rintro e w1 ⟨rfl, rfl⟩
    go_wp2_with fail
    go_ret
    exact ⟨rfl, rfl⟩
def orI (a b : Int) : Int := if a = 0 then b else a
theorem or_of (g c : Nat) (a b : Int) (w : World) (h0 : w.cell? ⟨g, 0, none⟩ = some (.int .i64 a)) (h1 : w.cell? ⟨g, 1, none⟩ = some (.int .i64 b)) :
    Calls Tryz.prog 290 #[.slice (some ⟨g, 0, none⟩) 2 c] w fun e w' => e = .returned (.int .i64 (orI a b)) ∧ w' = w := by
  by_cases ha : a = 0
  · subst ha
    by_cases hb : b = 0
    · subst hb
      go_enter Tryz.func290, Tryz.ntmps290
      go_wp2_with fail
      refine wp_loop_rounds 3 ?_
      rw [rounds_succ]
      go_wp2_with fail
      rw [rounds_succ]
      go_wp2_with fail
      rw [rounds_succ]
      go_wp2_with fail
      go_ret
      exact ⟨rfl, rfl⟩
    · have hb2 : (b != 0) = true := by simpa using hb
      go_enter Tryz.func290, Tryz.ntmps290
      go_wp2_with fail
      refine wp_loop_rounds 3 ?_
      rw [rounds_succ]
      go_wp2_with fail
      rw [rounds_succ]
      go_wp2_with fail
      go_ret
      exact ⟨rfl, rfl⟩
  · have ha2 : (a != 0) = true := by simpa using ha
    have he : orI a b = a := if_neg ha
    rw [he]
    go_enter Tryz.func290, Tryz.ntmps290
    go_wp2_with fail
    refine wp_loop_rounds 3 ?_
    rw [rounds_succ]
    go_wp2_with fail
    go_ret
    exact ⟨rfl, rfl⟩
end
section
open Go
def eL (e : Ent) : List Nat := if enOk e = true then enL e else []
def eR (e : Ent) : Int := if enOk e = true then 0 else 2
theorem eL_yes {e : Ent} (h : enOk e = true) : eL e = enL e := if_pos h
theorem eR_yes {e : Ent} (h : enOk e = true) : eR e = 0 := if_pos h
theorem eL_no {e : Ent} (h : enOk e = false) : eL e = [] := by unfold eL; rw [h]; rfl
theorem eR_no {e : Ent} (h : enOk e = false) : eR e = 2 := by unfold eR; rw [h]; rfl
def pL (x y : Int) (e : Ent) : List Nat := if balE x y = true ∧ enOk e = true then bodyL x y e else []
def pR (x y : Int) (e : Ent) : Int := if balE x y = true ∧ enOk e = true then 0 else 2
theorem pL_yes {x y : Int} {e : Ent} (hb : balE x y = true) (h : enOk e = true) : pL x y e = bodyL x y e := if_pos ⟨hb, h⟩
theorem pR_yes {x y : Int} {e : Ent} (hb : balE x y = true) (h : enOk e = true) : pR x y e = 0 := if_pos ⟨hb, h⟩
theorem pL_nob {x y : Int} {e : Ent} (hb : balE x y = false) : pL x y e = [] := by unfold pL; rw [hb, if_neg (by simp)]
theorem pR_nob {x y : Int} {e : Ent} (hb : balE x y = false) : pR x y e = 2 := by unfold pR; rw [hb, if_neg (by simp)]
theorem pL_no {x y : Int} {e : Ent} (h : enOk e = false) : pL x y e = [] := by unfold pL; rw [h, if_neg (by simp)]
theorem pR_no {x y : Int} {e : Ent} (h : enOk e = false) : pR x y e = 2 := by unfold pR; rw [h, if_neg (by simp)]
def psE (l : List Nat) : Nat × Nat × Ent × Int := match bdR l with | some (x, y, e) => (x, y, e, 0) | none => (0, 0, {}, 90)
theorem psE_some {l : List Nat} {x y : Nat} {e : Ent} (h : bdR l = some (x, y, e)) : psE l = (x, y, e, 0) := by unfold psE; rw [h]
theorem psE_none {l : List Nat} (h : bdR l = none) : psE l = (0, 0, {}, 90) := by unfold psE; rw [h]
theorem enR_no {l : List Nat} {a n : Nat} {e : Ent} (h : enRaw l a = some (e, n)) (hk : enOk e = false) : enR l a = none := by unfold enR; rw [h]; simp [hk]
theorem enR_yes {l : List Nat} {a n : Nat} {e : Ent} (h : enRaw l a = some (e, n)) (hk : enOk e = true) : enR l a = some (e, n) := by unfold enR; rw [h]; simp [hk]
theorem enR_raw {l : List Nat} {a : Nat} (h : enRaw l a = none) : enR l a = none := by unfold enR; rw [h]; rfl
theorem enRaw_noop {l : List Nat} {a : Nat} (h : l[a]? = some 1) : enRaw l a = some ({ k := 1 }, a + 1) := by unfold enRaw; rw [if_pos h]
theorem enRaw_op {l : List Nat} {a b1 b2 b3 : Nat} {s1 s2 s3 : ByteArray} (h : l[a]? = some 2) (h9 : a + 9 ≤ l.length) (r1 : rdT l (a + 9) = some (s1, b1)) (r2 : rdT l b1 = some (s2, b2)) (r3 : rdT l b2 = some (s3, b3)) :
    enRaw l a = some ({ k := 2, cl := (l.getD (a + 1) 0 : Nat), sq := (num ((l.drop (a + 2)).take 6) : Nat), ok := l.getD (a + 8) 0, key := s1, old := s2, val := s3 }, b3) := by
  unfold enRaw
  rw [if_neg (by rw [h]; simp), if_pos ⟨h, h9⟩, r1]
  simp only [Option.bind_some]
  rw [r2]
  simp only [Option.bind_some]
  rw [r3]
  rfl
theorem enRaw_kind {l : List Nat} {a x : Nat} (h : l[a]? = some x) (h1 : x ≠ 1) (h2 : x ≠ 2) : enRaw l a = none := by
  unfold enRaw
  rw [if_neg (by rw [h]; simpa using h1), if_neg (by rw [h]; simp [h2])]
theorem enRaw_end {l : List Nat} {a : Nat} (h : l.length ≤ a) : enRaw l a = none := by
  unfold enRaw
  rw [if_neg (by rw [List.getElem?_eq_none h]; simp), if_neg (by rw [List.getElem?_eq_none h]; simp)]
theorem enRaw_nine {l : List Nat} {a : Nat} (h : l[a]? = some 2) (h9 : l.length < a + 9) : enRaw l a = none := by
  unfold enRaw
  rw [if_neg (by rw [h]; simp), if_neg (by omega)]
theorem enRaw_t1 {l : List Nat} {a : Nat} (h : l[a]? = some 2) (r1 : rdT l (a + 9) = none) : enRaw l a = none := by
  unfold enRaw
  rw [if_neg (by rw [h]; simp), r1]
  split <;> rfl
theorem enRaw_t2 {l : List Nat} {a b1 : Nat} {s1 : ByteArray} (h : l[a]? = some 2) (r1 : rdT l (a + 9) = some (s1, b1)) (r2 : rdT l b1 = none) : enRaw l a = none := by
  unfold enRaw
  rw [if_neg (by rw [h]; simp), r1]
  split
  · simp only [Option.bind_some]
    rw [r2]
    rfl
  · rfl
theorem enRaw_t3 {l : List Nat} {a b1 b2 : Nat} {s1 s2 : ByteArray} (h : l[a]? = some 2) (r1 : rdT l (a + 9) = some (s1, b1)) (r2 : rdT l b1 = some (s2, b2)) (r3 : rdT l b2 = none) : enRaw l a = none := by
  unfold enRaw
  rw [if_neg (by rw [h]; simp), r1]
  split
  · simp only [Option.bind_some]
    rw [r2]
    simp only [Option.bind_some]
    rw [r3]
    rfl
  · rfl
theorem bad_of {e : Ent} (h : ¬ ((e.k = 1 ∧ e.cl = 0 ∧ e.sq = 0 ∧ e.ok = 0 ∧ e.key.size = 0 ∧ e.old.size = 0 ∧ e.val.size = 0) ∨ (e.k = 2 ∧ 0 ≤ e.cl ∧ e.cl ≤ 3 ∧ 1 ≤ e.sq ∧ e.sq ≤ 1099511627776 ∧ (1 ≤ e.key.size ∧ e.key.size ≤ 8 ∧ e.old.size ≤ 16 ∧ e.val.size ≤ 16 ∧ (((e.ok = 1 ∨ e.ok = 3) ∧ e.old.size = 0 ∧ e.val.size = 0) ∨ (e.ok = 2 ∧ e.old.size = 0) ∨ e.ok = 4)) ∧ e.ok ≠ 1))) : enOk e = false := by
  rw [Bool.eq_false_iff]
  intro hk
  have := enOk_iff.1 hk
  rw [opOk_iff] at this
  exact h this
theorem good_of {e : Ent} (h : enOk e = true) : ((e.k = 1 ∧ e.cl = 0 ∧ e.sq = 0 ∧ e.ok = 0 ∧ e.key.size = 0 ∧ e.old.size = 0 ∧ e.val.size = 0) ∨ (e.k = 2 ∧ 0 ≤ e.cl ∧ e.cl ≤ 3 ∧ 1 ≤ e.sq ∧ e.sq ≤ 1099511627776 ∧ (1 ≤ e.key.size ∧ e.key.size ≤ 8 ∧ e.old.size ≤ 16 ∧ e.val.size ≤ 16 ∧ (((e.ok = 1 ∨ e.ok = 3) ∧ e.old.size = 0 ∧ e.val.size = 0) ∨ (e.ok = 2 ∧ e.old.size = 0) ∨ e.ok = 4)) ∧ e.ok ≠ 1)) := by
  have := enOk_iff.1 h
  rw [opOk_iff] at this
  exact this
end
end Go.Proofs.YtmbmpabjclkhlaaGreatDoor
