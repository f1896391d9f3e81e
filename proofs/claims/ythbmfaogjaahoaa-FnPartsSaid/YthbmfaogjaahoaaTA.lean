/-
  Plain mathematics of the parts of a message: a text turned round takes as many bits; the longest text that has room; where the texts begin.
  A slice of bytes that is turned round in its place, and the longest text that has room, on both sides.
  The longest text that has room, of the model.
  Condition: as each statement says.
-/
import Derived.Test.YthbmfaogjaahoaaTI
import Derived.Test.YthbmfaogjaahoaaTJ
import Derived.Test.YthbmfaogjaahoaaDrawK
import Derived.Laws.IdiomStrings
import Derived.Test.YthbmfaogjaahoaaQC
namespace Go.Proofs.Ythbmfaogjaahoaa
open Go Go.RowKit
set_option linter.unusedSimpArgs false
set_option linter.unusedVariables false

theorem tab_rev_le : ∀ (n : Nat) (bs : List Int), bs.length ≤ n → (∀ x ∈ bs, 0 ≤ x ∧ x ≤ 255) → (tabT bs.reverse 0).l ≤ (tabT bs 0).l := by
  intro n
  induction n with
  | zero =>
    intro bs hl _
    obtain rfl := List.eq_nil_of_length_eq_zero (Nat.le_zero.1 hl)
    exact Nat.le_refl _
  | succ n ih =>
    intro bs hl hb
    by_cases h0 : bs.length = 0
    · obtain rfl := List.eq_nil_of_length_eq_zero h0
      exact Nat.le_refl _
    obtain ⟨s1, s2, s3, s4, m1, m2, _, hL⟩ := tab_says (i := 0) (by omega) hb
    rw [Nat.zero_add] at s3 hL
    rw [List.drop_zero] at s4
    generalize (tabT bs 0).s = s at *
    generalize (tabT bs 0).m = m at *
    have hsh : (tabT bs s).l = (tabT (bs.drop s) 0).l := by
      have := tab_shift (xs := bs.take s) (ys := bs.drop s) (by rw [List.take_append_drop]; exact hb) (bs.drop s).length 0 (by omega)
      rw [List.take_append_drop, List.length_take, Nat.min_eq_left s3] at this
      exact this
    have hi := ih (bs.drop s) (by rw [List.length_drop]; omega) (fun x h => hb x (List.mem_of_mem_drop h))
    have hrev : bs.reverse = (bs.drop s).reverse ++ (bs.take s).reverse := by rw [← List.reverse_append, List.take_append_drop]
    have hj := tab_join (xs := (bs.drop s).reverse) (ys := (bs.take s).reverse) (by rw [← hrev]; intro x h; exact hb x (List.mem_reverse.1 h)) (bs.drop s).reverse.length 0 (by omega)
    have hm : (tabT (bs.take s).reverse 0).l ≤ slen (m : Int) s := by
      have hlt : (bs.take s).length = s := by rw [List.length_take]; omega
      have h := tab_min (bs := (bs.take s).reverse) (i := 0) (m := m) (k := s) m1 m2 s1 (by
        rw [List.drop_zero]
        refine rch_of s2 (by rw [List.length_reverse, hlt]; exact Nat.le_refl _) fun j x hj hx => ?_
        rw [List.getElem?_reverse (by rw [hlt]; exact hj), hlt, List.getElem?_take_of_lt (by omega)] at hx
        exact rch_at s4 (j := s - 1 - j) (by omega) hx)
      rw [tabT_end (i := 0 + s) (by rw [List.length_reverse, hlt]; omega)] at h
      exact h
    rw [hrev]
    omega
/-- A text turned round takes as many bits. -/
theorem tab_rev {bs : List Int} (hb : ∀ x ∈ bs, 0 ≤ x ∧ x ≤ 255) : (tabT bs.reverse 0).l = (tabT bs 0).l := by
  refine Nat.le_antisymm (tab_rev_le _ bs (Nat.le_refl _) hb) ?_
  have h := tab_rev_le _ bs.reverse (Nat.le_refl _) (fun x h => hb x (List.mem_reverse.1 h))
  rw [List.reverse_reverse] at h
  exact h
/-- The cell of the turned text's rest says what the text's beginning takes. -/
theorem tab_back {bs : List Int} (hb : ∀ x ∈ bs, 0 ≤ x ∧ x ≤ 255) {k : Nat} (hk : k ≤ bs.length) : (tabT bs.reverse (bs.length - k)).l = (tabT (bs.take k) 0).l := by
  have hrev : bs.reverse = (bs.drop k).reverse ++ (bs.take k).reverse := by rw [← List.reverse_append, List.take_append_drop]
  have h := tab_shift (xs := (bs.drop k).reverse) (ys := (bs.take k).reverse) (by rw [← hrev]; intro x h; exact hb x (List.mem_reverse.1 h)) (bs.take k).reverse.length 0 (by omega)
  rw [← hrev, List.length_reverse, List.length_drop, Nat.add_zero] at h
  rw [h, tab_rev (fun x hx => hb x (List.mem_of_mem_take hx))]

/-- The longest of the first n beginnings of a text that takes at most r bits. -/
def lgF (bs : List Int) (r : Int) : Nat → Nat
  | 0 => 0
  | n + 1 => if (((tabT (bs.take (n + 1)) 0).l : Nat) : Int) ≤ r then n + 1 else lgF bs r n
theorem lgF_le (bs : List Int) (r : Int) : ∀ n, lgF bs r n ≤ n := by
  intro n
  induction n with
  | zero => exact Nat.le_refl _
  | succ n ih => unfold lgF; split <;> omega
theorem lgF_yes {bs : List Int} {r : Int} {n : Nat} (h : (((tabT (bs.take n) 0).l : Nat) : Int) ≤ r) : lgF bs r n = n := by
  cases n with
  | zero => rfl
  | succ n => rw [lgF, if_pos h]
theorem lgF_no {bs : List Int} {r : Int} {n : Nat} (h : ¬ (((tabT (bs.take (n + 1)) 0).l : Nat) : Int) ≤ r) : lgF bs r (n + 1) = lgF bs r n := by rw [lgF, if_neg h]
/-- How many bytes the longest text with room has. -/
def lg (s : ByteArray) (r : Int) : Nat := lgF (bytesI s) r s.size
theorem lg_le (s : ByteArray) (r : Int) : lg s r ≤ s.size := lgF_le _ _ _
theorem pre_l (s : ByteArray) {k : Nat} (hk : k ≤ s.size) : bytesI (s.extract 0 k) = (bytesI s).take k := by rw [bytesI_ext s hk, List.drop_zero, Nat.sub_zero]
/-- Where the k-th text begins. -/
def xpP (s : ByteArray) (r : Int) : Nat → Nat
  | 0 => 0
  | k + 1 => xpP s r k + lg (s.extract (xpP s r k) s.size) r
theorem ext_size (s : ByteArray) (a : Nat) (h : a ≤ s.size) : (s.extract a s.size).size = s.size - a := by simp
theorem xpP_le (s : ByteArray) (r : Int) : ∀ k, xpP s r k ≤ s.size := by
  intro k
  induction k with
  | zero => exact Nat.zero_le _
  | succ k ih =>
    have := lg_le (s.extract (xpP s r k) s.size) r
    rw [ext_size s _ ih] at this
    rw [xpP]; omega
/-- What is left in front of the k-th text, and this text. -/
def xpR (s : ByteArray) (r : Int) (k : Nat) : ByteArray := s.extract (xpP s r k) s.size
def xpT (s : ByteArray) (r : Int) (k : Nat) : ByteArray := s.extract (xpP s r k) (xpP s r (k + 1))
theorem xpR_size (s : ByteArray) (r : Int) (k : Nat) : (xpR s r k).size = s.size - xpP s r k := ext_size s _ (xpP_le s r k)
theorem xpR_zero (s : ByteArray) (r : Int) : xpR s r 0 = s := by unfold xpR xpP; simp
theorem xpP_succ (s : ByteArray) (r : Int) (k : Nat) : xpP s r (k + 1) = xpP s r k + lg (xpR s r k) r := rfl
theorem xpT_eq (s : ByteArray) (r : Int) (k : Nat) : (xpR s r k).extract 0 (lg (xpR s r k) r) = xpT s r k := by
  have := lg_le (xpR s r k) r
  rw [xpR_size] at this
  have h2 := xpP_le s r k
  unfold xpT
  rw [xpP_succ]
  generalize lg (xpR s r k) r = m at *
  unfold xpR
  rw [ByteArray.extract_extract, Nat.add_zero, Nat.min_eq_left (by omega)]
theorem xpR_next (s : ByteArray) (r : Int) (k : Nat) : (xpR s r k).extract (lg (xpR s r k) r) (xpR s r k).size = xpR s r (k + 1) := by
  have := lg_le (xpR s r k) r
  rw [xpR_size] at this ⊢
  have h2 := xpP_le s r k
  have h3 : xpR s r (k + 1) = s.extract (xpP s r k + lg (xpR s r k) r) s.size := by unfold xpR; rw [xpP_succ]; rfl
  rw [h3]
  generalize lg (xpR s r k) r = m at *
  unfold xpR
  rw [ByteArray.extract_extract, Nat.add_sub_cancel' h2, Nat.min_eq_left (Nat.le_refl _)]
/-- How many texts there are, if all of them have room; d rounds are left. -/
def xpG (s : ByteArray) (r : Int) : Nat → Nat → Option Nat
  | 0, _ => none
  | d + 1, k => if 0 < k ∧ (xpR s r k).size = 0 then some k else if (lg (xpR s r k) r = 0 ∧ 0 < (xpR s r k).size) ∨ k = 8 then none else xpG s r d (k + 1)
def xpN (s : ByteArray) (r : Int) : Option Nat := xpG s r 9 0
theorem xpG_done {s : ByteArray} {r : Int} {d k : Nat} (h : 0 < k) (h2 : (xpR s r k).size = 0) : xpG s r (d + 1) k = some k := by rw [xpG, if_pos ⟨h, h2⟩]
theorem xpG_stop {s : ByteArray} {r : Int} {d k : Nat} (h : k = 0 ∨ 0 < (xpR s r k).size) (h2 : (lg (xpR s r k) r = 0 ∧ 0 < (xpR s r k).size) ∨ k = 8) : xpG s r (d + 1) k = none := by rw [xpG, if_neg (by omega), if_pos h2]
theorem xpG_on {s : ByteArray} {r : Int} {d k : Nat} (h : k = 0 ∨ 0 < (xpR s r k).size) (h2 : (0 < lg (xpR s r k) r ∨ (xpR s r k).size = 0) ∧ k ≠ 8) : xpG s r (d + 1) k = xpG s r d (k + 1) := by
  have h3 := lg_le (xpR s r k) r
  rw [xpG, if_neg (by omega), if_neg (by omega)]
theorem xpG_ge {s : ByteArray} {r : Int} : ∀ d k n, xpG s r d k = some n → d + k = 9 → 1 ≤ n ∧ n ≤ 8 := by
  intro d
  induction d with
  | zero => intro k n h; cases h
  | succ d ih =>
    intro k n h hk
    rw [xpG] at h
    split at h
    · rename_i h1
      injection h with h
      by_cases h8 : k = 9
      · omega
      · omega
    · split at h
      · cases h
      · exact ih _ _ h (by omega)
theorem xpN_in {s : ByteArray} {r : Int} {n : Nat} (h : xpN s r = some n) : 1 ≤ n ∧ n ≤ 8 := xpG_ge 9 0 n h rfl
theorem xpN_empty {r : Int} : xpN ByteArray.empty r = some 1 ∧ xpT ByteArray.empty r 0 = ByteArray.empty := by
  have h0 : ∀ k, (xpR ByteArray.empty r k).size = 0 := fun k => by rw [xpR_size]; exact Nat.zero_sub _
  refine ⟨?_, ?_⟩
  · show xpG _ r 9 0 = _
    rw [xpG_on (.inl rfl) ⟨.inr (h0 0), by decide⟩, xpG_done (by decide) (h0 1)]
  · have : xpP ByteArray.empty r 1 = 0 := Nat.le_zero.1 (xpP_le ByteArray.empty r 1)
    unfold xpT
    rw [this]; unfold xpP; simp
end Go.Proofs.Ythbmfaogjaahoaa

namespace Go.Proofs.Ythbmfaogjaahoaa
open Go Go.RowKit
set_option linter.unusedSimpArgs false
set_option linter.unusedVariables false

theorem setCell_size8 (W : World) (a : Addr) (v : Value) : (W.setCell a v).heap.size = W.heap.size := by simp [World.setCell]
/-- The bytes of a string in a block of their own. -/
theorem bytes_row8 (w : World) (s : ByteArray) (cap : Nat) (e : TypeId) (f : Nat × Nat) : Ints .u8 (w.alloc (.cells (bytesRow s cap) e f)) (w.heap.size + 1) (some ⟨w.heap.size, 0, none⟩) s.size (bytesI s) := by
  refine ⟨bytesI_len s, fun hp => ⟨w.heap.size, 0, rfl, by omega, fun j x hx => ?_⟩⟩
  have hj : j < s.size := by have := (List.getElem?_eq_some_iff.1 hx).1; rw [bytesI_len] at this; exact this
  have hj' : j < s.data.size := hj
  have hx' : ((s.data[j]'hj').toNat : Int) = x := by
    unfold bytesI at hx
    rw [List.getElem?_map, Array.getElem?_toList, Array.getElem?_eq_getElem hj'] at hx
    simpa using hx
  rw [cell_of_row _ w.heap.size (0 + j) _ _ _ (heap_alloc_new w _), Nat.zero_add, bytesRow, Array.getElem?_append_left (by rw [Array.size_map]; exact hj'), Array.getElem?_map, Array.getElem?_eq_getElem hj']
  simp [hx']
/-- A block whose first cells are the bytes zs. -/
def B8 (w : World) (g : Nat) (zs : List Int) : Prop := g < w.heap.size ∧ ∀ (j : Nat) (x : Int), zs[j]? = some x → w.cell? ⟨g, j, none⟩ = some (.int .u8 x) ∧ w.frozen? ⟨g, j, none⟩ = false
section
variable {w : World} {g : Nat} {zs : List Int}
theorem B8.drew (h : B8 w g zs) : B8 w.drew g zs := h
theorem B8.ints (h : B8 w g zs) : Ints .u8 w w.heap.size (some ⟨g, 0, none⟩) zs.length zs :=
  ⟨rfl, fun _ => ⟨g, 0, rfl, h.1, fun j x hx => by rw [Nat.zero_add]; exact (h.2 j x hx).1⟩⟩
theorem B8.stored (h : B8 w g zs) (j : Nat) (y : Int) (hj : j < zs.length) : B8 (w.setCell ⟨g, j, none⟩ (.int .u8 y)) g (zs.set j y) := by
  refine ⟨by rw [setCell_size8]; exact h.1, fun i x hx => ?_⟩
  by_cases hij : i = j
  · subst hij
    rw [List.getElem?_set_self hj] at hx
    injection hx with hx
    subst hx
    obtain ⟨h1, h2⟩ := h.2 i _ (List.getElem?_eq_getElem hj)
    exact ⟨World.cell?_setCell_same w _ _ h1, by rw [World.frozen?_setCell]; exact h2⟩
  · rw [List.getElem?_set_ne (Ne.symm hij)] at hx
    obtain ⟨h1, h2⟩ := h.2 i x hx
    exact ⟨(World.cell?_setCell_other w _ _ _ (by intro e; injection e with _ e2; exact hij e2.symm)).trans h1, by rw [World.frozen?_setCell]; exact h2⟩
end
/-- A list whose first k and last k elements have changed places. -/
def rvL (zs : List Int) (k : Nat) : List Int := (List.range zs.length).map fun i => if i < k ∨ zs.length - k ≤ i then zs.getD (zs.length - 1 - i) 0 else zs.getD i 0
theorem rvL_len (zs : List Int) (k : Nat) : (rvL zs k).length = zs.length := by simp [rvL]
theorem rvL_get (zs : List Int) (k i : Nat) (hi : i < zs.length) : (rvL zs k)[i]? = some (if i < k ∨ zs.length - k ≤ i then zs.getD (zs.length - 1 - i) 0 else zs.getD i 0) := by
  unfold rvL; rw [List.getElem?_map, List.getElem?_range hi]; rfl
theorem getD_some {zs : List Int} {i : Nat} (hi : i < zs.length) : zs[i]? = some (zs.getD i 0) := by
  rw [List.getD_eq_getElem?_getD, List.getElem?_eq_getElem hi]; rfl
theorem rvL_zero (zs : List Int) : rvL zs 0 = zs := by
  apply List.ext_getElem?
  intro i
  by_cases hi : i < zs.length
  · rw [rvL_get _ _ _ hi, if_neg (by omega), getD_some hi]
  · rw [List.getElem?_eq_none (by rw [rvL_len]; omega), List.getElem?_eq_none (by omega)]
theorem rvL_end {zs : List Int} {k : Nat} (h : zs.length ≤ k + k + 1) : rvL zs k = zs.reverse := by
  apply List.ext_getElem?
  intro i
  by_cases hi : i < zs.length
  · rw [rvL_get _ _ _ hi, List.getElem?_reverse hi, getD_some (by omega)]
    split
    · rfl
    · rw [show zs.length - 1 - i = i by omega]
  · rw [List.getElem?_eq_none (by rw [rvL_len]; omega), List.getElem?_eq_none (by rw [List.length_reverse]; omega)]
theorem rvL_step {zs : List Int} {k j : Nat} (hj : j = zs.length - 1 - k) (h : k < j) : ((rvL zs k).set k (zs.getD j 0)).set j (zs.getD k 0) = rvL zs (k + 1) := by
  apply List.ext_getElem?
  intro i
  by_cases hi : i < zs.length
  · rw [rvL_get _ (k + 1) _ hi]
    by_cases h1 : i = j
    · subst h1
      rw [List.getElem?_set_self (by rw [List.length_set, rvL_len]; exact hi), if_pos (by omega), show zs.length - 1 - i = k by omega]
    · rw [List.getElem?_set_ne (Ne.symm h1)]
      by_cases h2 : i = k
      · subst h2
        rw [List.getElem?_set_self (by rw [rvL_len]; exact hi), if_pos (by omega), ← hj]
      · rw [List.getElem?_set_ne (Ne.symm h2), rvL_get _ _ _ hi]
        by_cases h3 : i < k ∨ zs.length - k ≤ i
        · rw [if_pos h3, if_pos (by omega)]
        · rw [if_neg h3, if_neg (by omega)]
  · rw [List.getElem?_eq_none (by rw [List.length_set, List.length_set, rvL_len]; omega), List.getElem?_eq_none (by rw [rvL_len]; omega)]
theorem rvL_at {zs : List Int} {k i : Nat} (h1 : k ≤ i) (h2 : i < zs.length - k) : (rvL zs k)[i]? = some (zs.getD i 0) := by
  rw [rvL_get _ _ _ (by omega), if_neg (by omega)]

theorem set_grown8 (w : World) (g j : Nat) (u : Value) : w.grownBy (w.setCell ⟨g, j, none⟩ u) (some g) :=
  ⟨rfl, rfl, rfl, by simp [World.setCell], fun i _ hne => Below.heap_setCell w ⟨g, j, none⟩ u i (fun e => hne (by simp [e]))⟩
def Turned8 (gB : Nat) (zs : List Int) (w : World) (x : Ending) (w' : World) : Prop := x = .returned (.tuple #[]) ∧ B8 w' gB zs ∧ w.grownBy w' (some gB)
def Rv8Rel (w : World) (gB : Nat) (zs : List Int) (u v : Value) (wr : World) : Prop :=
  ∃ (i : Nat) (jj : Int), u = .int .i64 i ∧ v = .int .i64 jj ∧ jj = (zs.length : Int) - 1 - (i : Int) ∧ i ≤ zs.length ∧ B8 wr gB (rvL zs i) ∧ w.grownBy wr (some gB)
set_option maxHeartbeats 2000000 in
theorem implReverse8 (c gB : Nat) (zs : List Int) (w : World) (hO : B8 w gB zs) (n : Nat) (hN : n = zs.length) (hn : n ≤ 1099511627776) :
    Calls Try.prog 107 #[.slice (some ⟨gB, 0, none⟩) n c] w (Turned8 gB zs.reverse w) := by
  have HO := hide hO
  have HN := hide hN
  clear hO
  clear hN
  go_enter Try.func107, Try.ntmps107
  go_wp2_with fail
  go_loopw [2, 3] (fun u v wr => Rv8Rel w gB zs u v wr) (fun u v _ => (intOf v - intOf u + 1).toNat)
  case atStart => exact ⟨0, (n : Int) - 1, rfl, rfl, by rw [← HN.out]; omega, by omega, by rw [rvL_zero]; exact HO.out, World.grownBy.refl _ _⟩
  case round =>
    clear HO
    obtain ⟨i, jj, rfl, rfl, hjj, hi, HO, HG⟩ := hrel
    have HO := hide HO
    have HG := hide HG
    rw [← HN.out] at hjj hi
    by_cases hlt : (i : Int) < jj
    · obtain ⟨j, rfl⟩ : ∃ j : Nat, jj = j := ⟨jj.toNat, by omega⟩
      have hj : j = n - 1 - i := by omega
      have hij : i < j := by omega
      have hjn : j < n := by omega
      have hin : i < n := by omega
      obtain ⟨x, hx⟩ : ∃ x, x = zs.getD i 0 := ⟨_, rfl⟩
      obtain ⟨y, hy⟩ : ∃ y, y = zs.getD j 0 := ⟨_, rfl⟩
      obtain ⟨hcx, hfx⟩ := HO.out.2 i x (by rw [rvL_at (Nat.le_refl _) (by rw [← HN.out]; omega), hx])
      obtain ⟨hcy, hfy⟩ := HO.out.2 j y (by rw [rvL_at (by omega) (by rw [← HN.out]; omega), hy])
      have HS := hide (show ((rvL zs i).set i y).set j x = rvL zs (i + 1) by rw [hx, hy]; exact rvL_step (by rw [← HN.out]; exact hj) hij)
      have HJ := hide hj
      have hne : i ≠ j := by omega
      clear hx hy hj hjj
      go_wp2_with fail
      go_region
      all_goals
        have HO2 := hide (HO.out.drew.stored i y (by rw [rvL_len, ← HN.out]; exact hin))
        have HO3 := hide (HO2.out.stored j x (by rw [List.length_set, rvL_len, ← HN.out]; exact hjn))
        rw [HS.out] at HO3
        go_wp2_with fail
        go_roundw
        case rel => exact ⟨i + 1, (j : Int) - 1, by go_num, rfl, by have := HJ.out; have := HN.out; omega, by have := HN.out; omega, HO3.out, grown_trans (grown_trans (grown_drewN HG.out 1) (set_grown8 _ _ i _)) (set_grown8 _ _ j _)⟩
        case measure => simp [intOf]; omega
    · have hd : decide ((i : Int) < jj) = false := by simpa using hlt
      have HF := hide (rvL_end (zs := zs) (k := i) (by have := HN.out; omega))
      clear hlt hjj
      go_wp2_with fail
      go_end0
      exact ⟨rfl, by rw [← HF.out]; exact HO.out, HG.out⟩

/-- The bytes turned round, as a string. -/
def turnS (s : ByteArray) : ByteArray := strOf (bytesI s).reverse
theorem turnS_bytes (s : ByteArray) : bytesI (turnS s) = (bytesI s).reverse := bytesI_strOf fun x hx => bytes_in s x (List.mem_reverse.1 hx)
theorem turnS_size (s : ByteArray) : (turnS s).size = s.size := by rw [← bytesI_len, turnS_bytes, List.length_reverse, bytesI_len]
theorem b8_row (w : World) (s : ByteArray) (cap : Nat) (e : TypeId) : B8 (w.alloc (.cells (bytesRow s cap) e ((bytesRow s cap).size, (bytesRow s cap).size + 1))).drew w.heap.size (bytesI s) := by
  refine ⟨?_, fun j x hx => ?_⟩
  · show w.heap.size < (w.alloc _).heap.size
    rw [alloc_size]; omega
  · have hj : j < (bytesI s).length := (List.getElem?_eq_some_iff.1 hx).1
    obtain ⟨_, h2⟩ := bytes_row8 w s cap e ((bytesRow s cap).size, (bytesRow s cap).size + 1)
    rw [bytesI_len] at hj
    obtain ⟨b, off, e1, _, h3⟩ := h2 (by omega)
    injection e1 with e1
    injection e1 with e1 e2 _
    have h4 := h3 j x hx
    rw [← e1, ← e2, Nat.zero_add] at h4
    refine ⟨h4, ?_⟩
    have h5 : j < (bytesRow s cap).size := by
      have := bytesRow_at s cap j hj
      rw [Array.getElem?_eq_some_iff] at this
      exact this.1
    show (w.alloc _).frozen? _ = false
    rw [World.frozen?_alloc_mark]
    simp only [Bool.and_eq_false_iff, decide_eq_false_iff_not]
    exact .inl (by omega)
def LgRel (s : ByteArray) (r : Int) (W : World) (u : Value) (wr : World) : Prop := ∃ k : Nat, u = .int .i64 k ∧ k ≤ s.size ∧ lgF (bytesI s) r k = lg s r ∧ wr = W
set_option maxRecDepth 100000 in
set_option maxHeartbeats 2000000 in
theorem implLongest (s : ByteArray) (hs : s.size ≤ 400) (r : Int) (hr : 0 ≤ r) (w : World) :
    Calls Try.prog 88 #[.string s, .int .i64 r] w (Gives (.int .i64 (lg s r)) w) := by
  have hconv : ∀ w : World, (convert 9 57 (.string s)).run Try.prog w = _ := fun w => run_bytes_of_string w 9 57 5 s Try.underlying9 Try.underlying57 Try.underlying5
  have HTS := hide (turnS_size s)
  have HTB := hide (turnS_bytes s)
  have HC := hide (implChoices (turnS s) (by rw [turnS_size]; exact hs))
  have HR := hide hr
  clear hr
  obtain ⟨Z, hZ, hz⟩ := zero_table
  have HZ := hide hZ
  clear hZ
  go_enter Try.func88, Try.ntmps88
  go_wp2_with fail
  obtain ⟨cap, hcap⟩ : ∃ cap, grownCap w s.size 0 5 = cap := ⟨_, rfl⟩
  rw [hcap]
  refine (implReverse8 cap w.heap.size (bytesI s) _ (b8_row w s cap 5) s.size (bytesI_len s).symm (by omega)).mono ?_
  rintro e w1 ⟨rfl, h8, hg⟩
  have HB1 := hide ((((Below.refl w.heap.size w).alloc (Nat.le_refl _) _).drew).grown hg (by show w.heap.size ≤ (w.alloc _).heap.size; rw [alloc_size]; omega) (fun q hq => by injection hq with hq; omega))
  have hstr : (convert 57 9 (.slice (some ⟨w.heap.size, 0, none⟩) s.size cap)).run Try.prog w1 = .ok (.string (turnS s)) w1 := by
    have h := h8.ints
    rw [List.length_reverse, bytesI_len] at h
    exact run_str w1 elem8 Try.underlying5 Try.underlying9 cap h
  clear h8 hg hcap hconv
  go_wp2_with fail
  refine (HC.out _).mono ?_
  rintro e w2 ⟨cs, rfl, ht, hb1⟩
  have HT := hide ht
  have HB2 := hide (HB1.out.trans (hb1.mono HB1.out.size))
  have HS := hide (show (Try.prog.info? 148).map (·.size) = some cs.size by rw [ht.1]; exact size_table)
  have HZS := hide (show Z.size = cs.size by rw [ht.1, HZ.out.1])
  have HRZ := hide (heap_alloc_new w2 (.cells Z 148))
  have HT2 := hide (show tabN (bytesI (turnS s)) (turnS s).size = tabT (bytesI s).reverse by rw [HTB.out, HTS.out]; unfold tabT; rw [List.length_reverse, bytesI_len])
  clear ht hb1 HC hstr
  go_wp2_with (first
    | (with_reducible refine wpList_store_row rfl 148 (.tmp 6) (.tmp 14) rfl w2.heap.size cs rfl rfl 148 Z HRZ.out HS.out HZS.out HT.out.one ?_))
  have HROW := hide (show RowQ ((w2.alloc (.cells Z 148)).setRow w2.heap.size cs) w2.heap.size 148 401 (tabT (bytesI s).reverse) from row_of (w0 := w2) HRZ.out (by rw [← HT2.out]; exact HT.out))
  have HB3 := hide (below_row (HB2.out.alloc HB2.out.size (.cells Z 148)) HB2.out.size cs)
  obtain ⟨W, hW⟩ : ∃ W, (w2.alloc (.cells Z 148)).setRow w2.heap.size cs = W := ⟨_, rfl⟩
  rw [hW] at HROW HB3
  try rw [hW]
  obtain ⟨b, hb⟩ : ∃ b, w2.heap.size = b := ⟨_, rfl⟩
  rw [hb] at HROW
  try rw [hb]
  clear HT HRZ HS HZS HT2 hW hb HB1 HB2 hz
  go_wp2_with fail
  go_loopw [7] (fun u wr => LgRel s r W u wr) (fun u _ => (intOf u).toNat)
  case atStart => exact ⟨s.size, rfl, Nat.le_refl _, rfl, rfl⟩
  case round =>
    obtain ⟨k, rfl, hk, hlg, rfl⟩ := hrel
    have HLG := hide hlg
    clear hlg
    obtain ⟨d0, _⟩ := HROW.out.cells (i := s.size - k) (by omega)
    have hB : (tabT (bytesI s).reverse (s.size - k)).l = (tabT ((bytesI s).take k) 0).l := by
      have := tab_back (bs := bytesI s) (bytes_in s) (k := k) (by rw [bytesI_len]; exact hk)
      rw [bytesI_len] at this; exact this
    rw [hB] at d0
    obtain ⟨x, hx⟩ : ∃ x, (tabT ((bytesI s).take k) 0).l = x := ⟨_, rfl⟩
    rw [hx] at d0
    have HX := hide hx
    have hm : s.size - k < 401 := by omega
    have hks : (k : Int) ≤ s.size := by omega
    clear hB hx
    by_cases hle : r < (x : Int)
    · have hk0 : k ≠ 0 := by
        intro e; subst e
        have h1 := HX.out
        have h2 := HR.out
        rw [List.take_zero] at h1
        have h3 : (tabT [] 0).l = 0 := rfl
        omega
      obtain ⟨j, rfl⟩ : ∃ j, k = j + 1 := ⟨k - 1, by omega⟩
      have HN := hide (lgF_no (bs := bytesI s) (r := r) (n := j) (by rw [HX.out]; omega))
      go_wp2_with fail
      go_roundw
      case rel => exact ⟨j, by go_num, by omega, by rw [← HN.out]; exact HLG.out, rfl⟩
      case measure => simp [intOf]
    · have hd : decide (r < (x : Int)) = false := by simpa using hle
      have HY := hide (lgF_yes (bs := bytesI s) (r := r) (n := k) (by rw [HX.out]; omega))
      go_wp2_with fail
      go_ret
      rw [← HLG.out, HY.out]
      exact ⟨rfl, HB3.out⟩
end Go.Proofs.Ythbmfaogjaahoaa

namespace Go.Proofs.Ythbmfaogjaahoaa
open Go Go.RowKit
set_option linter.unusedSimpArgs false
set_option linter.unusedVariables false

theorem bl_pre {s : ByteArray} (hs : s.size ≤ 400) {k : Nat} (hk : k ≤ s.size) : blOf (s.extract 0 k) = (((tabT ((bytesI s).take k) 0).l : Nat) : Int) ∧ (tabT ((bytesI s).take k) 0).l ≤ 1130800 := by
  have h1 : (s.extract 0 k).size ≤ 400 := by simp; omega
  have h2 := bsT_l (s.extract 0 k) h1
  unfold bsT at h2
  rw [pre_l s hk] at h2
  rw [bl_tab h1, pre_l s hk]
  exact ⟨rfl, h2⟩
def LgsRel (s : ByteArray) (r : Int) (w : World) (u v : Value) (wr : World) : Prop := ∃ k : Nat, u = .int .i64 (lgF (bytesI s) r k : Nat) ∧ v = .int .i64 ((k + 1 : Nat) : Int) ∧ k ≤ s.size ∧ Below w.heap.size w wr
set_option maxRecDepth 100000 in
set_option maxHeartbeats 2000000 in
theorem specLongest (s : ByteArray) (hs : s.size ≤ 400) (b : Int) (hb : 17 ≤ b) (hb2 : b ≤ 8192) (w : World) :
    Calls Try.prog 54 #[.string s, .int .i64 b] w (Gives (.int .i64 (lg s (b - 17))) w) := by
  have HS := hide hs
  go_enter Try.func54, Try.ntmps54
  go_wp2_with fail
  go_loopw [5, 6] (fun u v wr => LgsRel s (b - 17) w u v wr) (fun _ v _ => (401 - intOf v).toNat)
  case atStart => exact ⟨0, rfl, rfl, Nat.zero_le _, Below.refl _ _⟩
  case round =>
    obtain ⟨k, rfl, rfl, hk, hbl⟩ := hrel
    have HB := hide hbl
    clear hbl
    obtain ⟨L, hL⟩ : ∃ L, lgF (bytesI s) (b - 17) k = L := ⟨_, rfl⟩
    have HL := hide hL
    rw [hL]
    clear hL
    by_cases hlt : k + 1 ≤ s.size
    · obtain ⟨hbl, hx2⟩ := bl_pre HS.out hlt
      obtain ⟨x, hx⟩ : ∃ x, (tabT ((bytesI s).take (k + 1)) 0).l = x := ⟨_, rfl⟩
      rw [hx] at hbl hx2
      have HX := hide hx
      have HBL := hide hbl
      have HSE := hide (show (s.extract 0 (k + 1)).size ≤ 1099511627776 by simp; omega)
      clear hx hbl
      go_wp2_with fail
      refine (specBl _ HSE.out _).mono ?_
      rintro e w1 ⟨rfl, hw1⟩
      rw [HBL.out]
      have HB1 := hide (HB.out.trans (hw1.mono HB.out.size))
      clear hw1
      by_cases hle : (x : Int) + 17 ≤ b
      · have HN := hide (lgF_yes (bs := bytesI s) (r := b - 17) (n := k + 1) (by rw [HX.out]; omega))
        go_wp2_with fail
        go_roundw
        case rel => exact ⟨k + 1, by rw [HN.out]; rfl, by go_num, hlt, HB1.out⟩
        case measure => simp [intOf]; omega
      · have HN := hide (lgF_no (bs := bytesI s) (r := b - 17) (n := k) (by rw [HX.out]; omega))
        go_wp2_with fail
        go_roundw
        case rel => exact ⟨k + 1, by rw [HN.out, HL.out], by go_num, hlt, HB1.out⟩
        case measure => simp [intOf]; omega
    · have HE := hide (show lg s (b - 17) = L by rw [← HL.out, lg, show s.size = k by omega])
      have hd : decide (((k + 1 : Nat) : Int) ≤ (s.size : Int)) = false := by simp; omega
      go_wp2_with fail
      go_ret
      rw [HE.out]
      exact ⟨rfl, HB.out⟩
end Go.Proofs.Ythbmfaogjaahoaa
