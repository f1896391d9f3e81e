/-
  The nearest format word: l08Nearest and NearestFormat of the model.
  Condition: as each statement says.
-/
import Derived.Test.YtkaconpbmppekaaWd7
namespace Go.Proofs.Ytkaconpbmppekaa
open Go.RowKit
set_option linter.unusedSimpArgs false
set_option linter.unusedVariables false

/-- How far a list is from the word of a number. -/
def distF (D L P K : Nat) (zs : List Int) (v : Nat) : Nat := awayL (bitsOf (wordF D K P v : Nat) L) zs
theorem distF_le {D L P K : Nat} {zs : List Int} (h : zs.length = L) (v : Nat) : distF D L P K zs v ≤ L := by
  have := away_le (ws := bitsOf (wordF D K P v : Nat) L) (zs := zs) (by rw [bitsOf_len, h])
  rw [h] at this
  exact this
/-- The nearest number and its distance; the damage. -/
def nearF (D L P K : Nat) (zs : List Int) : Nat × Nat := bestF (distF D L P K zs) L (2 ^ D)
def dmgF (D L P K : Nat) (zs : List Int) : Nat := 2 * (nearF D L P K zs).2 + unkL zs
theorem near_le {D L P K : Nat} {zs : List Int} (h : zs.length = L) : (nearF D L P K zs).1 < 2 ^ D ∧ (nearF D L P K zs).2 ≤ L := by
  obtain ⟨h1, h2, _⟩ := best_spec (distF_le (D := D) (P := P) (K := K) h) (2 ^ D) (Nat.two_pow_pos D)
  exact ⟨h1, by rw [nearF, ← h2]; exact distF_le h _⟩
def LRes (a b c : Nat) (d : Bool) : Value := .tuple #[.int .i64 a, .int .i64 b, .int .i64 c, .bool d]

set_option maxRecDepth 100000 in
set_option maxHeartbeats 4000000 in
theorem specNearest {D L P K : Nat} (h : FcIs D L P K) (A : Option Addr) (c B : Nat) (zs : List Int) (w : World) (hI : Ints .i64 w B A L zs) (hB : B ≤ w.heap.size) :
    Calls Try.prog 58 #[.agg #[.int .i64 D, .int .i64 L, .int .i64 P], .slice A L c] w (Gives (LRes (nearF D L P K zs).1 (nearF D L P K zs).2 (unkL zs) (decide (dmgF D L P K zs < minD D L P K))) w) := by
  have HX := hide (Box.start w 25 D L P)
  obtain ⟨c0, c1, c2⟩ := HX.out.cells
  have HF := hide h
  have HI := hide hI
  have HZ := hide hI.len
  have hD8 := h.d8
  have hL := h.l24
  obtain ⟨N, hN⟩ : ∃ N, N = 2 ^ D := ⟨_, rfl⟩
  obtain ⟨pw, hpw, he, hp1, hp2⟩ := pow_fits D (by omega)
  obtain rfl : pw = (N : Int) := by rw [he, hN]; push_cast; rfl
  have hcv : IntKind.u64.wrap (D : Int) = (D : Int) := by rw [IntKind.wrap_u64]; omega
  have hN1 : 1 ≤ N := by rw [hN]; exact Nat.two_pow_pos D
  have hN2 : N ≤ 256 := by rw [hN]; exact (Nat.pow_le_pow_right (n := 2) (by decide) hD8 : 2 ^ D ≤ 2 ^ 8)
  have HN := hide hN
  obtain ⟨f, hf⟩ : ∃ f, distF D L P K zs = f := ⟨_, rfl⟩
  have HFL := hide (show ∀ v, f v ≤ L from fun v => by rw [← hf]; exact distF_le hI.len v)
  have HFF := hide hf
  have hul : unkL zs ≤ L := by have := unk_le zs; rw [hI.len] at this; exact this
  obtain ⟨U, hU⟩ : ∃ U, unkL zs = U := ⟨_, rfl⟩
  have HU := hide hU
  rw [hU] at hul
  have HNR := hide (show nearF D L P K zs = bestF f L N by rw [nearF, hf, hN])
  clear h hN he hI hf hU
  go_enter Try.func58, Try.ntmps58
  go_wp2_with fail
  go_quiet (fail)
  go_wp2_with fail
  have HX0 := hide (HX.out.drewN 1)
  go_loopw [8, 9, 10, 11] (fun a b u i wr => ∃ (k x y z : Nat), k ≤ N ∧ i = .int .i64 k ∧ a = .int .i64 x ∧ b = .int .i64 y ∧ u = .int .i64 z ∧ x ≤ k ∧ y ≤ L + 1 ∧ z ≤ L ∧ Hid (bestF f L k = (x, y)) ∧ Hid (0 < k → z = U) ∧ Box w wr 25 D L P) (fun _ _ _ i _ => N - (intOf i).toNat)
  case atStart => exact ⟨0, 0, L + 1, 0, Nat.zero_le _, rfl, rfl, by go_num, rfl, Nat.le_refl _, Nat.le_refl _, Nat.zero_le _, rfl, fun h => absurd h (Nat.lt_irrefl 0), HX.out.drewN _⟩
  case round =>
    clear c0 c1 c2
    obtain ⟨k, x, y, z, hk, rfl, rfl, rfl, rfl, hx, hy, hz, HBT, HUU, HX2⟩ := hrel
    have HX2 := hide HX2
    obtain ⟨c0, c1, c2⟩ := HX2.out.cells
    by_cases hlt : k < N
    · have hv2 : k < 2 ^ D := by rw [← HN.out]; exact hlt
      have HW := hide (fun w' => specWord HF.out k hv2 w')
      have HFK := hide (show awayL (bitsOf (wordF D K P k : Nat) L) zs = f k by rw [← HFF.out]; rfl)
      have hfk := HFL.out k
      obtain ⟨q, hq⟩ : ∃ q, f k = q := ⟨_, rfl⟩
      have HQ := hide hq
      rw [hq] at HFK hfk
      have HBS : Hid (bestF f L (k + 1) = if q < y then (k, q) else (x, y)) := by
        unfold Hid
        by_cases hqy : q < y
        · rw [if_pos hqy, best_yes (by rw [HBT.out, HQ.out]; exact hqy), HQ.out]
        · rw [if_neg hqy, best_no (by rw [HBT.out, HQ.out]; exact hqy), HBT.out]
      clear hv2 hq
      by_cases hqy : q < y
      · rw [if_pos hqy] at HBS
        go_wp2_with fail
        refine (HW.out _).mono ?_
        rintro e w2 ⟨A2, m2, rfl, hm2, hown, hb⟩
        have HX3 := hide (HX2.out.next hb)
        have HI2 := hide (Own.ints hown)
        rw [bitsOf_len] at HI2 hm2 ⊢
        have HIZ := hide ((HI.out.below (HX3.out.2.mono hB)))
        clear hb hown c0 c1 c2
        go_wp2_with fail
        refine (specAway A2 L m2 _ _ A c _ zs w2 HI2.out HIZ.out (by omega)).mono ?_
        rw [HFK.out, HU.out]
        rintro e w3 ⟨rfl, k3, rfl⟩
        go_wp2_with fail
        go_roundw
        case rel => exact ⟨k + 1, k, q, U, by omega, by go_num, rfl, rfl, rfl, by omega, by omega, hul, HBS, fun _ => rfl, HX3.out.drewN _⟩
        case measure => simp [intOf]; omega
      · rw [if_neg hqy] at HBS
        have hqd : decide (q < y) = false := by simpa using hqy
        go_wp2_with fail
        refine (HW.out _).mono ?_
        rintro e w2 ⟨A2, m2, rfl, hm2, hown, hb⟩
        have HX3 := hide (HX2.out.next hb)
        have HI2 := hide (Own.ints hown)
        rw [bitsOf_len] at HI2 hm2 ⊢
        have HIZ := hide ((HI.out.below (HX3.out.2.mono hB)))
        clear hb hown c0 c1 c2
        go_wp2_with fail
        refine (specAway A2 L m2 _ _ A c _ zs w2 HI2.out HIZ.out (by omega)).mono ?_
        rw [HFK.out, HU.out]
        rintro e w3 ⟨rfl, k3, rfl⟩
        go_wp2_with fail
        go_roundw
        case rel => exact ⟨k + 1, x, y, U, by omega, by go_num, rfl, rfl, rfl, by omega, by omega, hul, HBS, fun _ => rfl, HX3.out.drewN _⟩
        case measure => simp [intOf]; omega
    · obtain rfl : k = N := by omega
      obtain rfl : z = U := HUU.out hN1
      have hmd := minD_le D L P K
      have hmin := HF.out
      obtain ⟨M, hM⟩ : ∃ M, minD D L P K = M := ⟨_, rfl⟩
      have HMI := hide (fun w' => specMin HF.out w')
      rw [hM] at HMI hmd
      have HR := hide (show LRes (nearF D L P K zs).1 (nearF D L P K zs).2 (unkL zs) (decide (dmgF D L P K zs < minD D L P K)) = LRes x y z (decide (2 * (y : Int) + (z : Int) < (M : Int))) by
        rw [dmgF, HNR.out, HBT.out, HU.out, hM]
        congr 1
        rw [decide_eq_decide]
        show 2 * y + z < M ↔ _
        omega)
      clear hM hmin HUU
      go_wp2_with fail
      refine (HMI.out _).mono ?_
      rintro e w4 ⟨rfl, hb⟩
      have HX4 := hide (HX2.out.next hb)
      clear hb
      go_wp2_with fail
      refine bodyPost_ret (v := LRes x y z (decide (2 * (y : Int) + (z : Int) < (M : Int)))) (by simp [results, Try.results58, go_sem, LRes]) rfl ⟨by rw [HR.out], HX4.out.2⟩

def GivesIII (a b c : Int) (w : World) (x : Ending) (w' : World) : Prop := x = .returned (.tuple #[.int .i64 a, .int .i64 b, .int .i64 c]) ∧ Below w.heap.size w w'
/-- The cases of a format code and a list. -/
theorem nf_cases (d l p : Int) (zs : List Int) : fcB d l p = false ∨ (∃ D L P K : Nat, d = D ∧ l = L ∧ p = P ∧ FcIs D L P K ∧ okL L zs = false) ∨
    (∃ D L P K : Nat, d = D ∧ l = L ∧ p = P ∧ FcIs D L P K ∧ zs.length = L ∧ zs.all isTri = true ∧ okL L zs = true) := by
  rcases h : fcB d l p with _ | _
  · exact .inl rfl
  · obtain ⟨D, L, P, K, rfl, rfl, rfl, hf⟩ := fcB_open h
    rcases ho : okL L zs with _ | _
    · exact .inr (.inl ⟨D, L, P, K, rfl, rfl, rfl, hf, ho⟩)
    · have h2 := ho
      unfold okL at h2
      rw [Bool.and_eq_true, decide_eq_true_eq] at h2
      exact .inr (.inr ⟨D, L, P, K, rfl, rfl, rfl, hf, h2.2, h2.1, ho⟩)

set_option maxRecDepth 100000 in
set_option maxHeartbeats 4000000 in
theorem specNf_bad (d l p : Int) (hl : -9223372036854775808 ≤ l) (h : fcB d l p = false) (A : Option Addr) (n c : Nat) (w : World) :
    Calls Try.prog 28 #[.agg #[.int .i64 d, .int .i64 l, .int .i64 p], .slice A n c] w (GivesIII 0 0 1 w) := by
  have HX := hide (Box.start w 25 d l p)
  have HV := hide (fun w' => specFcIs d l p hl w')
  rw [h] at HV
  clear h
  go_enter Try.func28, Try.ntmps28
  go_wp2_with fail
  refine (HV.out _).mono ?_
  rintro e w1 ⟨rfl, hb⟩
  have HX1 := hide (HX.out.next hb)
  clear hb
  go_wp2_with fail
  go_ret3
  exact ⟨rfl, HX1.out.2⟩
set_option maxRecDepth 100000 in
set_option maxHeartbeats 4000000 in
theorem specNf_out {D L P K : Nat} (h : FcIs D L P K) (A : Option Addr) (n c B : Nat) (zs : List Int) (w : World) (hI : Ints .i64 w B A n zs) (hB : B ≤ w.heap.size) (hn : n ≤ 1099511627776) (ho : okL L zs = false) :
    Calls Try.prog 28 #[.agg #[.int .i64 D, .int .i64 L, .int .i64 P], .slice A n c] w (GivesIII 0 0 2 w) := by
  have HX := hide (Box.start w 25 D L P)
  have HV := hide (fun w' => specFcIs D L P (by omega) w')
  rw [fcB_of h] at HV
  have HI := hide hI
  have HO := hide ho
  clear h hI ho
  go_enter Try.func28, Try.ntmps28
  go_wp2_with fail
  refine (HV.out _).mono ?_
  rintro e w1 ⟨rfl, hb⟩
  have HX1 := hide (HX.out.next hb)
  obtain ⟨c0, c1, c2⟩ := HX1.out.cells
  clear hb
  go_wp2_with fail
  refine (specList D L P A n c w1.heap.size zs w1 ((HI.out.below (HX1.out.2.mono hB)).more (Nat.le_trans hB HX1.out.2.size)) (Nat.le_refl _) hn L rfl).mono ?_
  rw [HO.out]
  rintro e w2 ⟨rfl, hb⟩
  have HX2 := hide (HX1.out.next hb)
  clear hb
  go_wp2_with fail
  go_ret3
  exact ⟨rfl, HX2.out.2⟩
set_option maxRecDepth 100000 in
set_option maxHeartbeats 4000000 in
theorem specNf_ok {D L P K : Nat} (h : FcIs D L P K) (A : Option Addr) (c B : Nat) (zs : List Int) (w : World) (hI : Ints .i64 w B A L zs) (hB : B ≤ w.heap.size) (ho : okL L zs = true) :
    Calls Try.prog 28 #[.agg #[.int .i64 D, .int .i64 L, .int .i64 P], .slice A L c] w (if dmgF D L P K zs < minD D L P K then GivesIII (nearF D L P K zs).1 (nearF D L P K zs).2 0 w else GivesIII 0 0 7 w) := by
  have HX := hide (Box.start w 25 D L P)
  have HV := hide (fun w' => specFcIs D L P (by omega) w')
  rw [fcB_of h] at HV
  have HF := hide h
  have HI := hide hI
  have HO := hide ho
  have hL24 := h.l24
  have hnl := near_le (D := D) (P := P) (K := K) hI.len
  obtain ⟨x, hx⟩ : ∃ x, (nearF D L P K zs).1 = x := ⟨_, rfl⟩
  obtain ⟨y, hy⟩ : ∃ y, (nearF D L P K zs).2 = y := ⟨_, rfl⟩
  obtain ⟨u, hu⟩ : ∃ u, unkL zs = u := ⟨_, rfl⟩
  have HN := hide (fun (w' : World) (hI' : Ints .i64 w' w'.heap.size A L zs) => specNearest HF.out A c w'.heap.size zs w' hI' (Nat.le_refl _))
  rw [hx, hy, hu] at HN
  rw [hx, hy]
  by_cases hlt : dmgF D L P K zs < minD D L P K
  · rw [if_pos hlt]
    rw [decide_eq_true hlt] at HN
    clear h hI ho hlt hx hy hu hnl
    go_enter Try.func28, Try.ntmps28
    go_wp2_with fail
    refine (HV.out _).mono ?_
    rintro e w1 ⟨rfl, hb⟩
    have HX1 := hide (HX.out.next hb)
    obtain ⟨c0, c1, c2⟩ := HX1.out.cells
    clear hb
    go_wp2_with fail
    refine (specList D L P A L c w1.heap.size zs w1 ((HI.out.below (HX1.out.2.mono hB)).more (Nat.le_trans hB HX1.out.2.size)) (Nat.le_refl _) (by omega) L rfl).mono ?_
    rw [HO.out]
    rintro e w2 ⟨rfl, hb⟩
    have HX2 := hide (HX1.out.next hb)
    clear hb c0 c1 c2
    obtain ⟨c0, c1, c2⟩ := HX2.out.cells
    go_wp2_with fail
    refine (HN.out _ ((HI.out.below (HX2.out.2.mono hB)).more (Nat.le_trans hB HX2.out.2.size))).mono ?_
    rintro e w3 ⟨rfl, hb⟩
    have HX3 := hide (HX2.out.next hb)
    clear hb
    unfold LRes
    go_wp2_with fail
    go_ret3
    exact ⟨rfl, HX3.out.2⟩
  · rw [if_neg hlt]
    rw [decide_eq_false hlt] at HN
    clear h hI ho hlt hx hy hu hnl
    go_enter Try.func28, Try.ntmps28
    go_wp2_with fail
    refine (HV.out _).mono ?_
    rintro e w1 ⟨rfl, hb⟩
    have HX1 := hide (HX.out.next hb)
    obtain ⟨c0, c1, c2⟩ := HX1.out.cells
    clear hb
    go_wp2_with fail
    refine (specList D L P A L c w1.heap.size zs w1 ((HI.out.below (HX1.out.2.mono hB)).more (Nat.le_trans hB HX1.out.2.size)) (Nat.le_refl _) (by omega) L rfl).mono ?_
    rw [HO.out]
    rintro e w2 ⟨rfl, hb⟩
    have HX2 := hide (HX1.out.next hb)
    clear hb c0 c1 c2
    obtain ⟨c0, c1, c2⟩ := HX2.out.cells
    go_wp2_with fail
    refine (HN.out _ ((HI.out.below (HX2.out.2.mono hB)).more (Nat.le_trans hB HX2.out.2.size))).mono ?_
    rintro e w3 ⟨rfl, hb⟩
    have HX3 := hide (HX2.out.next hb)
    clear hb
    unfold LRes
    go_wp2_with fail
    go_ret3
    exact ⟨rfl, HX3.out.2⟩
end Go.Proofs.Ytkaconpbmppekaa
