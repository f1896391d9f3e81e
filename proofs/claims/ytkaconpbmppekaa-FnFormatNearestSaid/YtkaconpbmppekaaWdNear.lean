/-
  A format word with its first bits flipped, fewer than half of the minimum distance, is nearest to its own number.
  Condition: the code is valid.
-/
import Derived.Test.YtkaconpbmppekaaWdKeyS
namespace Go.Proofs.Ytkaconpbmppekaa
open Go.RowKit
set_option linter.unusedSimpArgs false
set_option linter.unusedVariables false

/-- The first t bits flipped. -/
def flipW : Nat → List Int → List Int
  | 0, ws => ws
  | _ + 1, [] => []
  | t + 1, x :: xs => (1 - x) :: flipW t xs
theorem flip_len : ∀ (t : Nat) (ws : List Int), (flipW t ws).length = ws.length
  | 0, ws => rfl
  | _ + 1, [] => rfl
  | t + 1, x :: xs => by show (flipW t xs).length + 1 = xs.length + 1; rw [flip_len t xs]
theorem flip_bit : ∀ (t : Nat) (ws : List Int), (∀ z ∈ ws, z = 0 ∨ z = 1) → ∀ z ∈ flipW t ws, z = 0 ∨ z = 1
  | 0, ws, h => h
  | _ + 1, [], h => h
  | t + 1, x :: xs, h => by
    intro z hz
    have hz : z ∈ (1 - x) :: flipW t xs := hz
    rcases List.mem_cons.1 hz with rfl | hz
    · rcases h x (by simp) with rfl | rfl <;> simp
    · exact flip_bit t xs (fun y hy => h y (by simp [hy])) z hz
theorem flip_at : ∀ (t : Nat) (ws : List Int), (flipW t ws)[t]? = ws[t]?
  | 0, ws => rfl
  | _ + 1, [] => rfl
  | t + 1, x :: xs => by show (flipW t xs)[t]? = xs[t]?; exact flip_at t xs
theorem flip_set : ∀ (t : Nat) (ws : List Int) (x : Int), ws[t]? = some x → (flipW t ws).set t (1 - x) = flipW (t + 1) ws
  | 0, [], x, h => by simp at h
  | 0, y :: ys, x, h => by
    obtain rfl : y = x := by simpa using h
    rfl
  | _ + 1, [], x, h => by simp at h
  | t + 1, y :: ys, x, h => by
    show (1 - y) :: (flipW t ys).set t (1 - x) = (1 - y) :: flipW (t + 1) ys
    rw [flip_set t ys x (by simpa using h)]
theorem away_cons (a b : Int) (ps qs : List Int) : awayL (a :: ps) (b :: qs) = (if 0 ≤ b ∧ a ≠ b then 1 else 0) + awayL ps qs := by
  unfold awayL
  rw [List.zip_cons_cons, List.countP_cons, Nat.add_comm]
  congr 1
  by_cases h1 : 0 ≤ b <;> by_cases h2 : a = b <;> simp [h1, h2]
theorem differ_cons (a b : Int) (ps qs : List Int) : differ (a :: ps) (b :: qs) = (if a ≠ b then 1 else 0) + differ ps qs := by
  unfold differ
  rw [List.zip_cons_cons, List.countP_cons, Nat.add_comm]
  congr 1
  by_cases h2 : a = b <;> simp [h2]
theorem away_self : ∀ (ws : List Int), awayL ws ws = 0
  | [] => rfl
  | x :: xs => by rw [away_cons, away_self xs, if_neg (by simp)]
theorem away_flip : ∀ (t : Nat) (ws : List Int), (∀ z ∈ ws, z = 0 ∨ z = 1) → t ≤ ws.length → awayL ws (flipW t ws) = t
  | 0, ws, h, ht => away_self ws
  | _ + 1, [], h, ht => by simp at ht
  | t + 1, x :: xs, h, ht => by
    show awayL (x :: xs) ((1 - x) :: flipW t xs) = _
    rw [away_cons, away_flip t xs (fun y hy => h y (by simp [hy])) (by simpa using ht), if_pos (by rcases h x (by simp) with rfl | rfl <;> decide)]
    omega
theorem far_flip : ∀ (t : Nat) (us ws : List Int), us.length = ws.length → (∀ z ∈ ws, z = 0 ∨ z = 1) → differ us ws ≤ awayL us (flipW t ws) + t
  | 0, [], [], hl, h => Nat.le_refl _
  | _ + 1, [], [], hl, h => by simp [differ]
  | _, [], _ :: _, hl, h => by simp at hl
  | _, _ :: _, [], hl, h => by simp at hl
  | 0, u :: us, x :: xs, hl, h => by
    have ih := far_flip 0 us xs (by simpa using hl) (fun y hy => h y (by simp [hy]))
    show _ ≤ awayL (u :: us) (x :: xs) + 0
    have ih : differ us xs ≤ awayL us xs + 0 := ih
    rw [away_cons, differ_cons]
    have hx : 0 ≤ x := by rcases h x (by simp) with rfl | rfl <;> decide
    by_cases hux : u = x
    · rw [if_neg (by simpa using hux), if_neg (by simp [hux])]; omega
    · rw [if_pos hux, if_pos ⟨hx, hux⟩]; omega
  | t + 1, u :: us, x :: xs, hl, h => by
    have ih := far_flip t us xs (by simpa using hl) (fun y hy => h y (by simp [hy]))
    show _ ≤ awayL (u :: us) ((1 - x) :: flipW t xs) + (t + 1)
    rw [away_cons, differ_cons]
    split <;> split <;> omega
theorem unk_bits : ∀ (ws : List Int), (∀ z ∈ ws, z = 0 ∨ z = 1) → unkL ws = 0 := by
  intro ws h
  unfold unkL
  rw [List.countP_eq_zero]
  intro z hz
  rcases h z hz with rfl | rfl <;> decide
theorem tri_bits (ws : List Int) (h : ∀ z ∈ ws, z = 0 ∨ z = 1) : ws.all isTri = true := by
  rw [List.all_eq_true]
  intro z hz
  rcases h z hz with rfl | rfl <;> decide
theorem pop_pos : ∀ (n x : Nat), 1 ≤ x → x < 2 ^ n → 1 ≤ popN n x
  | 0, x, h1, h2 => by simp at h2; omega
  | n + 1, x, h1, h2 => by
    show 1 ≤ x % 2 + popN n (x / 2)
    rw [Nat.pow_succ] at h2
    by_cases h : x % 2 = 0
    · have := pop_pos n (x / 2) (by omega) (by omega)
      omega
    · omega
theorem minF_pos {D L P K : Nat} (h : FcIs D L P K) : ∀ n, n ≤ 2 ^ D - 1 → 1 ≤ minF L D K P n
  | 0, _ => by show 1 ≤ L; have := h.lk; have := h.d1; omega
  | n + 1, hn => by
    show 1 ≤ min _ _
    have h1 := minF_pos h n (by omega)
    have h2 : 1 ≤ popN L (wordF D K P (n + 1)) := by
      refine pop_pos _ _ ?_ (h.w24 (by have := Nat.two_pow_pos D; omega))
      have : 1 ≤ (n + 1) * 2 ^ K := Nat.mul_pos (Nat.succ_pos n) (Nat.two_pow_pos K)
      unfold wordF
      omega
    omega
theorem minD_pos {D L P K : Nat} (h : FcIs D L P K) : 1 ≤ minD D L P K := minF_pos h _ (Nat.le_refl _)
theorem wdL_bit (D L P K v : Nat) : ∀ z ∈ wdL D L P K v, z = 0 ∨ z = 1 := fun z hz => bitsOf_bitN hz
/-- What is nearest to a word with t bits flipped. -/
theorem near_flip {D L P K v t : Nat} (h : FcIs D L P K) (hv : v < 2 ^ D) (ht : 2 * t < minD D L P K) :
    nearF D L P K (flipW t (wdL D L P K v)) = (v, t) := by
  have hlen : (flipW t (wdL D L P K v)).length = L := by rw [flip_len, wdL_len]
  have hm := minD_le D L P K
  obtain ⟨h1, h2, h3, _⟩ := best_spec (distF_le (D := D) (P := P) (K := K) hlen) (2 ^ D) (Nat.two_pow_pos D)
  have hfv : distF D L P K (flipW t (wdL D L P K v)) v = t := away_flip t _ (wdL_bit D L P K v) (by rw [bitsOf_len]; omega)
  have hb := h3 v hv
  rw [hfv] at hb
  have he : (bestF (distF D L P K (flipW t (wdL D L P K v))) L (2 ^ D)).1 = v := by
    rcases Nat.decEq (bestF (distF D L P K (flipW t (wdL D L P K v))) L (2 ^ D)).1 v with hne | he
    · exfalso
      obtain ⟨u, hu⟩ : ∃ u, (bestF (distF D L P K (flipW t (wdL D L P K v))) L (2 ^ D)).1 = u := ⟨_, rfl⟩
      rw [hu] at h1 h2 hne
      have hfar := word_far (l := L) h.p1 h.p2 h1 hv hne
      have hd : differ (wdL D L P K u) (wdL D L P K v) = popN L (wordF D K P u ^^^ wordF D K P v) := differ_pop _ _ _
      have hf := far_flip t (wdL D L P K u) (wdL D L P K v) (by rw [wdL_len, wdL_len]) (wdL_bit D L P K v)
      rw [hd] at hf
      have h4 : awayL (wdL D L P K u) (flipW t (wdL D L P K v)) = distF D L P K (flipW t (wdL D L P K v)) u := rfl
      unfold minD at ht
      omega
    · exact he
  unfold nearF
  exact Prod.ext he (by rw [← h2, he, hfv])
theorem dmg_flip {D L P K v t : Nat} (h : FcIs D L P K) (hv : v < 2 ^ D) (ht : 2 * t < minD D L P K) :
    dmgF D L P K (flipW t (wdL D L P K v)) < minD D L P K := by
  unfold dmgF
  rw [near_flip h hv ht, unk_bits _ (flip_bit t _ (wdL_bit D L P K v))]
  show 2 * t + 0 < _
  omega
/-- What the program answers there. -/
theorem flip_key {D L P K v t : Nat} (h : FcIs D L P K) (hv : v < 2 ^ D) (ht : 2 * t < minD D L P K) :
    V1 27 D L P (flipW t (wdL D L P K v)) (GivesIII (v : Nat) (t : Nat) 0) ∧
    V2 30 D L P (flipW t (wdL D L P K v)) (flipW t (wdL D L P K v)) (GivesII (v : Nat) 0) := by
  have hlen : (flipW t (wdL D L P K v)).length = L := by rw [flip_len, wdL_len]
  have htri := tri_bits _ (flip_bit t _ (wdL_bit D L P K v))
  have hok : okL L (flipW t (wdL D L P K v)) = true := by unfold okL; rw [htri, hlen]; simp
  have hd := dmg_flip h hv ht
  have hn := near_flip h hv ht
  refine ⟨fun A n c B w hI hB => ?_, fun A n c A' n' c' B w hI hI' hB => ?_⟩
  · obtain rfl : n = L := by rw [← hlen]; exact hI.len.symm
    have := implNf_ok h A c B _ w hI hB hok htri
    rw [if_pos hd, hn] at this
    exact this
  · obtain rfl : n = L := by rw [← hlen]; exact hI.len.symm
    obtain rfl : n' = n := by rw [← hlen]; exact hI'.len.symm
    have := implFs_ok h A c A' c' B _ _ w hI hI' hB hok htri hok htri
    rw [hn] at this
    unfold shV shC at this
    rw [if_neg (by omega), if_pos hd, if_neg (by omega), if_pos hd] at this
    exact this
/-- NearestFormat of both, and when the code is valid. -/
theorem nfk_both (d l p : Int) (zs : List Int) (hz : zs.length ≤ 1048576) (hl : -9223372036854775808 ≤ l ∧ l ≤ 9223372036854775807) :
    ∃ a b k : Int, V1 28 d l p zs (GivesIII a b k) ∧ V1 27 d l p zs (GivesIII a b k) ∧
      (k = 1 ∨ k = 2 ∨ (k ≠ 1 ∧ k ≠ 2 ∧ ∃ D L P K : Nat, d = D ∧ l = L ∧ p = P ∧ FcIs D L P K)) := by
  rcases nf_cases d l p zs with h | ⟨D, L, P, K, rfl, rfl, rfl, hf, ho⟩ | ⟨D, L, P, K, rfl, rfl, rfl, hf, hzl, ht, ho⟩
  · exact ⟨0, 0, 1, fun A n c B w hI hB => specNf_bad d l p hl.1 h A n c w, fun A n c B w hI hB => implNf_bad d l p h A n c w, .inl rfl⟩
  · exact ⟨0, 0, 2, fun A n c B w hI hB => specNf_out hf A n c B zs w hI hB (by have := hI.len; omega) ho, fun A n c B w hI hB => implNf_out hf A n c B zs w hI hB (by have := hI.len; omega) ho, .inr (.inl rfl)⟩
  · by_cases hlt : dmgF D L P K zs < minD D L P K
    · refine ⟨(nearF D L P K zs).1, (nearF D L P K zs).2, 0, fun A n c B w hI hB => ?_, fun A n c B w hI hB => ?_, .inr (.inr ⟨by decide, by decide, D, L, P, K, rfl, rfl, rfl, hf⟩)⟩
      · obtain rfl : n = L := by rw [← hzl]; exact hI.len.symm
        have := specNf_ok hf A c B zs w hI hB ho
        rwa [if_pos hlt] at this
      · obtain rfl : n = L := by rw [← hzl]; exact hI.len.symm
        have := implNf_ok hf A c B zs w hI hB ho ht
        rwa [if_pos hlt] at this
    · refine ⟨0, 0, 7, fun A n c B w hI hB => ?_, fun A n c B w hI hB => ?_, .inr (.inr ⟨by decide, by decide, D, L, P, K, rfl, rfl, rfl, hf⟩)⟩
      · obtain rfl : n = L := by rw [← hzl]; exact hI.len.symm
        have := specNf_ok hf A c B zs w hI hB ho
        rwa [if_neg hlt] at this
      · obtain rfl : n = L := by rw [← hzl]; exact hI.len.symm
        have := implNf_ok hf A c B zs w hI hB ho ht
        rwa [if_neg hlt] at this
end Go.Proofs.Ytkaconpbmppekaa
