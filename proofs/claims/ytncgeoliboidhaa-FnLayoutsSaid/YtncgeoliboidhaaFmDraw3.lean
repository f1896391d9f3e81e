/-
  The model's draws of a family's size and of a level.
  Condition: the code has at most 4096 bytes.
-/
import Derived.Test.YtncgeoliboidhaaFmDraw2
namespace Go.Proofs.Ytncgeoliboidhaa
open Go.RowKit
set_option linter.unusedSimpArgs false
set_option linter.unusedVariables false

/-- A number is drawn, whatever it is. -/
def DrawnI (g Bc : Nat) (A : Option Addr) (n c : Nat) (code : List Int) (w : World) (x : Ending) (w' : World) : Prop := ∃ y : Int, x = .returned (.int .i64 y) ∧ Src w' g Bc A n c code ∧ w.grownBy w' (some g)

set_option maxRecDepth 100000 in
set_option maxHeartbeats 16000000 in
theorem drawSize0 (g Bc : Nat) (Ac : Option Addr) (nc cc : Nat) (code : List Int) (s : ByteArray) (κ p k γ : Int) (A : Option Addr) (c : Nat) (C : Int) (A' : Option Addr) (n' c' : Nat) (w : World) (hS : Src w g Bc Ac nc cc code) :
    Calls Try.prog 56 #[.pointer (some ⟨g, 0, none⟩), .agg #[.string s, .int .i64 κ, .int .i64 p, .int .i64 k, .int .i64 γ, .slice A 0 c, .int .i64 C, .slice A' n' c']] w (DrawnI g Bc Ac nc cc code w) := by
  have HGL := hide hS.lt
  obtain ⟨w1, hw1⟩ : ∃ w1, w.alloc (.cells #[.string s, .int .i64 κ, .int .i64 p, .int .i64 k, .int .i64 γ, .slice A 0 c, .int .i64 C, .slice A' n' c'] 31) = w1 := ⟨_, rfl⟩
  have hb1 : Below w.heap.size w w1 := by rw [← hw1]; exact (Below.refl _ _).alloc (Nat.le_refl _) _
  have HF1 := hide (show w1.heap[w.heap.size]? = some (.cells #[.string s, .int .i64 κ, .int .i64 p, .int .i64 k, .int .i64 γ, .slice A 0 c, .int .i64 C, .slice A' n' c'] 31 (0, 0)) by rw [← hw1]; exact heap_alloc_new _ _)
  have HS1 := hide (hS.below hb1 hS.lt)
  have HG1 := hide (show w.grownBy w1 (some g) from grown_of hb1 (Nat.le_refl _))
  have HNX := hide (fun m w' (hS : Src w' g Bc Ac nc cc code) (hm : m ≤ 4611686018427387904) => next_any g Bc Ac nc cc code m w' hS hm)
  clear hS hb1
  obtain ⟨⟨t0, t1, t2, t3, t4, t5, t6, t7⟩, _⟩ := row8 HF1.out
  go_enter Try.func56, Try.ntmps56
  go_wp2_with fail
  clear hw1
  clear t0 t1 t2 t3 t4 t5 t6 t7
  obtain ⟨wy, hwy⟩ : ∃ wy, w1.alloc (.cells #[.int .i64 0, .int .i64 3, .int .i64 17, .int .i64 18, .int .i64 45] 2) = wy := ⟨_, rfl⟩
  have hby : Below w1.heap.size w1 wy := by rw [← hwy]; exact (Below.refl _ _).alloc (Nat.le_refl _) _
  have HFy := hide (heap_nextG HF1.out hby)
  have HSy := hide (HS1.out.below hby HS1.out.lt)
  have HGy := hide (grown_blw HG1.out hby HG1.out.size)
  have HO := hide (show wy.heap[w1.heap.size]? = some (.cells #[.int .i64 0, .int .i64 3, .int .i64 17, .int .i64 18, .int .i64 45] 2 (0, 0)) by rw [← hwy]; exact heap_alloc_new _ _)
  have HBO := hide (show g < w1.heap.size from HS1.out.lt)
  clear hby
  go_wp2_with fail
  (try rw [hwy])
  clear hwy
  refine (HNX.out 5 _ HSy.out (by decide)).mono ?_
  rintro e wz ⟨z, rfl, hz0, hz1, hSb, hgb⟩
  have HFz := hide (row_grownF HFy.out hgb (by have := HGL.out; omega))
  have HGz := hide (grown_one HGy.out hgb)
  have hO := row_grownF HO.out hgb (by have := HBO.out; omega)
  have hkc := fun j => cell_of_row wz w1.heap.size j _ _ _ hO
  have HKC := hide hkc
  have HSz := hide hSb
  clear hO hkc hSb hgb
  obtain ⟨i, hi, rfl⟩ : ∃ i : Nat, i < 5 ∧ z = i := ⟨z.toNat, by omega, by omega⟩
  clear hz0 hz1
  obtain rfl | rfl | rfl | rfl | rfl : i = 0 ∨ i = 1 ∨ i = 2 ∨ i = 3 ∨ i = 4 := by omega
  · have hkc := HKC.out 0
    go_wp2_with fail
    go_ret
    exact ⟨_, rfl, HSz.out, HGz.out⟩
  · have hkc := HKC.out 1
    go_wp2_with fail
    go_ret
    exact ⟨_, rfl, HSz.out, HGz.out⟩
  · have hkc := HKC.out 2
    go_wp2_with fail
    go_ret
    exact ⟨_, rfl, HSz.out, HGz.out⟩
  · have hkc := HKC.out 3
    go_wp2_with fail
    go_ret
    exact ⟨_, rfl, HSz.out, HGz.out⟩
  · have hkc := HKC.out 4
    go_wp2_with fail
    go_ret
    exact ⟨_, rfl, HSz.out, HGz.out⟩
set_option maxRecDepth 100000 in
set_option maxHeartbeats 16000000 in
theorem drawSizeN (g Bc : Nat) (Ac : Option Addr) (nc cc : Nat) (code : List Int) (s : ByteArray) (κ p k γ : Int) (b off : Nat) (n c : Nat) (C : Int) (A' : Option Addr) (n' c' : Nat) (w : World) (hS : Src w g Bc Ac nc cc code) (hn : 0 < n) (hn8 : n ≤ 8) (hgb0 : g < b) (hbl : b < w.heap.size) (hc : ∀ j : Nat, j < n → ∃ x : Int, w.cell? ⟨b, off + j, none⟩ = some (.int .i64 x)) :
    Calls Try.prog 56 #[.pointer (some ⟨g, 0, none⟩), .agg #[.string s, .int .i64 κ, .int .i64 p, .int .i64 k, .int .i64 γ, .slice (some ⟨b, off, none⟩) n c, .int .i64 C, .slice A' n' c']] w (DrawnI g Bc Ac nc cc code w) := by
  have hb0 : b < w.heap.size := hbl
  have HN := hide (show 0 < n ∧ n ≤ 8 from ⟨hn, hn8⟩)
  have HB := hide (show g < b ∧ b < w.heap.size from ⟨hgb0, hbl⟩)
  have HC := hide hc
  have hnz : ((n : Int) == 0) = false := by simp; omega
  clear hn hn8 hgb0 hbl hc hb0
  have HGL := hide hS.lt
  obtain ⟨w1, hw1⟩ : ∃ w1, w.alloc (.cells #[.string s, .int .i64 κ, .int .i64 p, .int .i64 k, .int .i64 γ, .slice (some ⟨b, off, none⟩) n c, .int .i64 C, .slice A' n' c'] 31) = w1 := ⟨_, rfl⟩
  have hb1 : Below w.heap.size w w1 := by rw [← hw1]; exact (Below.refl _ _).alloc (Nat.le_refl _) _
  have HF1 := hide (show w1.heap[w.heap.size]? = some (.cells #[.string s, .int .i64 κ, .int .i64 p, .int .i64 k, .int .i64 γ, .slice (some ⟨b, off, none⟩) n c, .int .i64 C, .slice A' n' c'] 31 (0, 0)) by rw [← hw1]; exact heap_alloc_new _ _)
  have HS1 := hide (hS.below hb1 hS.lt)
  have HG1 := hide (show w.grownBy w1 (some g) from grown_of hb1 (Nat.le_refl _))
  have HNX := hide (fun m w' (hS : Src w' g Bc Ac nc cc code) (hm : m ≤ 4611686018427387904) => next_any g Bc Ac nc cc code m w' hS hm)
  clear hS hb1
  obtain ⟨⟨t0, t1, t2, t3, t4, t5, t6, t7⟩, _⟩ := row8 HF1.out
  go_enter Try.func56, Try.ntmps56
  go_wp2_with fail
  clear hw1
  clear t0 t1 t2 t3 t4 t5 t6 t7
  refine (HNX.out 20 _ HS1.out (by decide)).mono ?_
  rintro e w2 ⟨z, rfl, hz0, hz1, hSb, hgb⟩
  have HF2 := hide (row_grownF HF1.out hgb (by have := HGL.out; omega))
  have HG2 := hide (grown_one HG1.out hgb)
  have HS2 := hide hSb
  clear hSb hgb
  by_cases hz : z = 0
  · subst hz
    clear hz0 hz1 hnz
    obtain ⟨wy, hwy⟩ : ∃ wy, w2.alloc (.cells #[.int .i64 0, .int .i64 3, .int .i64 17, .int .i64 18, .int .i64 45] 2) = wy := ⟨_, rfl⟩
    have hby : Below w2.heap.size w2 wy := by rw [← hwy]; exact (Below.refl _ _).alloc (Nat.le_refl _) _
    have HFy := hide (heap_nextG HF2.out hby)
    have HSy := hide (HS2.out.below hby HS2.out.lt)
    have HGy := hide (grown_blw HG2.out hby HG2.out.size)
    have HO := hide (show wy.heap[w2.heap.size]? = some (.cells #[.int .i64 0, .int .i64 3, .int .i64 17, .int .i64 18, .int .i64 45] 2 (0, 0)) by rw [← hwy]; exact heap_alloc_new _ _)
    have HBO := hide (show g < w2.heap.size from HS2.out.lt)
    clear hby
    go_wp2_with fail
    (try rw [hwy])
    clear hwy
    refine (HNX.out 5 _ HSy.out (by decide)).mono ?_
    rintro e wz ⟨z, rfl, hz0, hz1, hSb, hgb⟩
    have HFz := hide (row_grownF HFy.out hgb (by have := HGL.out; omega))
    have HGz := hide (grown_one HGy.out hgb)
    have hO := row_grownF HO.out hgb (by have := HBO.out; omega)
    have hkc := fun j => cell_of_row wz w2.heap.size j _ _ _ hO
    have HKC := hide hkc
    have HSz := hide hSb
    clear hO hkc hSb hgb
    obtain ⟨i, hi, rfl⟩ : ∃ i : Nat, i < 5 ∧ z = i := ⟨z.toNat, by omega, by omega⟩
    clear hz0 hz1
    obtain rfl | rfl | rfl | rfl | rfl : i = 0 ∨ i = 1 ∨ i = 2 ∨ i = 3 ∨ i = 4 := by omega
    · have hkc := HKC.out 0
      go_wp2_with fail
      go_ret
      exact ⟨_, rfl, HSz.out, HGz.out⟩
    · have hkc := HKC.out 1
      go_wp2_with fail
      go_ret
      exact ⟨_, rfl, HSz.out, HGz.out⟩
    · have hkc := HKC.out 2
      go_wp2_with fail
      go_ret
      exact ⟨_, rfl, HSz.out, HGz.out⟩
    · have hkc := HKC.out 3
      go_wp2_with fail
      go_ret
      exact ⟨_, rfl, HSz.out, HGz.out⟩
    · have hkc := HKC.out 4
      go_wp2_with fail
      go_ret
      exact ⟨_, rfl, HSz.out, HGz.out⟩
  have hzz : (z == 0) = false := by simpa using hz
  have hbd := (Below.refl w2.heap.size w2).drew
  have HFd := hide (heap_nextG HF2.out hbd)
  have HSd := hide (HS2.out.below hbd HS2.out.lt)
  have HGd := hide (grown_blw HG2.out hbd HG2.out.size)
  clear hbd hz0 hz1 hz
  obtain ⟨⟨t0, t1, t2, t3, t4, t5, t6, t7⟩, _⟩ := row8 HF2.out
  go_wp2_with fail
  clear t0 t1 t2 t3 t4 t5 t6 t7
  clear hzz
  refine tail_begin (fun w' => w'.cell? ⟨w.heap.size, 5, none⟩ = some (.slice (some ⟨b, off, none⟩) n c)) 9 (by kernel_rfl) (row8 HFd.out).1.2.2.2.2.2.1 (fun hS' => ?_)
  obtain ⟨wd, hwd⟩ : ∃ q, w2.drew = q := ⟨_, rfl⟩
  rw [hwd] at hS' HFd HSd HGd ⊢
  clear hwd
  refine tail_take 0 rfl (by kernel_rfl) (by kernel_rfl) (by kernel_rfl) (by kernel_rfl) (fun _ _ _ h => h) (by rfl) (v := ?_) ?_ (by assumption) ?_
  rotate_left 1
  · intro w' hS'; (try dsimp only at hS'); go_simp; try with_reducible rfl
  try simp only [Act.put, List.setIfInBounds_toArray, List.set_cons_zero, List.set_cons_succ]
  refine tail_take 1 rfl (by kernel_rfl) (by kernel_rfl) (by kernel_rfl) (by kernel_rfl) (fun _ _ _ h => h) (by rfl) (v := ?_) ?_ (by assumption) ?_
  rotate_left 1
  · intro w' hS'; (try dsimp only at hS'); go_simp; try with_reducible rfl
  try simp only [Act.put, List.setIfInBounds_toArray, List.set_cons_zero, List.set_cons_succ]
  refine tail_take 2 rfl (by kernel_rfl) (by kernel_rfl) (by kernel_rfl) (by kernel_rfl) (fun _ _ _ h => h) (by rfl) (v := ?_) ?_ (by assumption) ?_
  rotate_left 1
  · intro w' hS'; (try dsimp only at hS'); go_simp; try with_reducible rfl
  try simp only [Act.put, List.setIfInBounds_toArray, List.set_cons_zero, List.set_cons_succ]
  refine tail_take 3 rfl (by kernel_rfl) (by kernel_rfl) (by kernel_rfl) (by kernel_rfl) (fun _ _ _ h => h) (by rfl) (v := ?_) ?_ (by assumption) ?_
  rotate_left 1
  · intro w' hS'; (try dsimp only at hS'); go_simp; try with_reducible rfl
  try simp only [Act.put, List.setIfInBounds_toArray, List.set_cons_zero, List.set_cons_succ]
  refine tail_take 4 rfl (by kernel_rfl) (by kernel_rfl) (by kernel_rfl) (by kernel_rfl) (fun _ _ _ h => h) (by rfl) (v := ?_) ?_ (by assumption) ?_
  rotate_left 1
  · intro w' hS'; (try dsimp only at hS'); go_simp; try with_reducible rfl
  try simp only [Act.put, List.setIfInBounds_toArray, List.set_cons_zero, List.set_cons_succ]
  refine tail_take 5 rfl (by kernel_rfl) (by kernel_rfl) (by kernel_rfl) (by kernel_rfl) (fun _ _ _ h => h) (by rfl) (v := ?_) ?_ (by assumption) ?_
  rotate_left 1
  · intro w' hS'; (try dsimp only at hS'); go_simp; try with_reducible rfl
  try simp only [Act.put, List.setIfInBounds_toArray, List.set_cons_zero, List.set_cons_succ]
  refine tail_call 6 rfl (by kernel_rfl) rfl (fun K' hK => ?_)
  go_simp
  go_at_call 83; refine (HNX.out n _ HSd.out (by have := HN.out; omega)).mono ?_; rintro e we ⟨z, rfl, hz0, hz1, hSb, hgb⟩
  have HFe := hide (row_grownF HFd.out hgb (by have := HGL.out; omega))
  have HGe := hide (grown_one HGd.out hgb)
  have HSe := hide hSb
  clear hSb hgb
  refine hK.out _ _ (by (try dsimp only); exact (row8 HFe.out).1.2.2.2.2.2.1) (fun hS' => ?_)
  clear hK K'
  try simp only [Act.put, List.setIfInBounds_toArray, List.set_cons_zero, List.set_cons_succ]
  obtain ⟨i, hi, rfl⟩ : ∃ i : Nat, i < n ∧ z = i := ⟨z.toNat, by have := HN.out; omega, by omega⟩
  obtain ⟨x, hx⟩ := HC.out i hi
  have hcx : we.cell? ⟨b, off + i, none⟩ = some (.int .i64 x) := by rw [← hx]; exact World.cell?_of_block (HGe.out.block b HB.out.2 (by intro e; injection e with e; have := HB.out.1; omega))
  clear hz0 hz1 hx
  refine tail_call 7 rfl (by kernel_rfl) rfl (fun K' hK => ?_)
  go_simp
  refine hK.out _ _ (by (try dsimp only); exact (row8 HFe.out).1.2.2.2.2.2.1) (fun hS' => ?_)
  clear hK K'
  try simp only [Act.put, List.setIfInBounds_toArray, List.set_cons_zero, List.set_cons_succ]
  refine tail_call 8 rfl (by kernel_rfl) rfl (fun K' hK => ?_)
  go_simp
  refine hK.out _ _ (by (try dsimp only); exact (row8 HFe.out).1.2.2.2.2.2.1) (fun hS' => ?_)
  clear hK K'
  try simp only [Act.put, List.setIfInBounds_toArray, List.set_cons_zero, List.set_cons_succ]
  refine tail_last 9 rfl (by kernel_rfl) (by kernel_rfl) rfl rfl (fun K' hK => ?_)
  go_simp
  refine hK.out _ _ ?_
  clear hK K' hS'
  try simp only [Act.put, List.setIfInBounds_toArray, List.set_cons_zero, List.set_cons_succ]
  go_wp2_with fail
  go_ret
  exact ⟨_, rfl, HSe.out, HGe.out⟩
theorem drawSize (g Bc : Nat) (Ac : Option Addr) (nc cc : Nat) (code : List Int) (s : ByteArray) (κ p k γ : Int) (A : Option Addr) (n c : Nat) (C : Int) (A' : Option Addr) (n' c' : Nat) (zs : List Int) (lo : Nat) (w : World) (hS : Src w g Bc Ac nc cc code) (hz : FixI w lo A n zs) (hg : g < lo) :
    Calls Try.prog 56 #[.pointer (some ⟨g, 0, none⟩), .agg #[.string s, .int .i64 κ, .int .i64 p, .int .i64 k, .int .i64 γ, .slice A n c, .int .i64 C, .slice A' n' c']] w (DrawnI g Bc Ac nc cc code w) := by
  rcases Nat.eq_zero_or_pos n with rfl | hn
  · exact drawSize0 g Bc Ac nc cc code s κ p k γ A c C A' n' c' w hS
  · obtain ⟨b, off, rfl, h1, h2, hc⟩ := hz.2.2 hn
    refine drawSizeN g Bc Ac nc cc code s κ p k γ b off n c C A' n' c' w hS hn hz.2.1 (by omega) h2 (fun j hj => ?_)
    have hj' : j < zs.length := by rw [hz.1]; exact hj
    exact ⟨zs[j], hc j _ (List.getElem?_eq_getElem hj')⟩

set_option maxRecDepth 100000 in
set_option maxHeartbeats 16000000 in
theorem drawLevel (g Bc : Nat) (Ac : Option Addr) (nc cc : Nat) (code : List Int) (s : ByteArray) (κ p k γ : Int) (A : Option Addr) (n c : Nat) (C : Int) (A' : Option Addr) (n' c' : Nat) (w : World) (hS : Src w g Bc Ac nc cc code) (hn8 : n' ≤ 8) :
    Calls Try.prog 57 #[.pointer (some ⟨g, 0, none⟩), .agg #[.string s, .int .i64 κ, .int .i64 p, .int .i64 k, .int .i64 γ, .slice A n c, .int .i64 C, .slice A' n' c']] w (DrawnI g Bc Ac nc cc code w) := by
  have HN := hide hn8
  clear hn8
  have HGL := hide hS.lt
  obtain ⟨w1, hw1⟩ : ∃ w1, w.alloc (.cells #[.string s, .int .i64 κ, .int .i64 p, .int .i64 k, .int .i64 γ, .slice A n c, .int .i64 C, .slice A' n' c'] 31) = w1 := ⟨_, rfl⟩
  have hb1 : Below w.heap.size w w1 := by rw [← hw1]; exact (Below.refl _ _).alloc (Nat.le_refl _) _
  have HF1 := hide (show w1.heap[w.heap.size]? = some (.cells #[.string s, .int .i64 κ, .int .i64 p, .int .i64 k, .int .i64 γ, .slice A n c, .int .i64 C, .slice A' n' c'] 31 (0, 0)) by rw [← hw1]; exact heap_alloc_new _ _)
  have HS1 := hide (hS.below hb1 hS.lt)
  have HG1 := hide (show w.grownBy w1 (some g) from grown_of hb1 (Nat.le_refl _))
  have HNX := hide (fun m w' (hS : Src w' g Bc Ac nc cc code) (hm : m ≤ 4611686018427387904) => next_any g Bc Ac nc cc code m w' hS hm)
  clear hS hb1
  obtain ⟨⟨t0, t1, t2, t3, t4, t5, t6, t7⟩, _⟩ := row8 HF1.out
  go_enter Try.func57, Try.ntmps57
  go_wp2_with fail
  clear hw1
  clear t0 t1 t2 t3 t4 t5 t6 t7
  refine (HNX.out 20 _ HS1.out (by decide)).mono ?_
  rintro e w2 ⟨z, rfl, hz0, hz1, hSb, hgb⟩
  have HF2 := hide (row_grownF HF1.out hgb (by have := HGL.out; omega))
  have HG2 := hide (grown_one HG1.out hgb)
  have HS2 := hide hSb
  clear hSb hgb
  by_cases hz : z = 0
  · subst hz
    clear hz0 hz1
    have hbd := (Below.refl w2.heap.size w2).drew
    have HFd := hide (heap_nextG HF2.out hbd)
    have HSd := hide (HS2.out.below hbd HS2.out.lt)
    have HGd := hide (grown_blw HG2.out hbd HG2.out.size)
    clear hbd
    obtain ⟨⟨t0, t1, t2, t3, t4, t5, t6, t7⟩, _⟩ := row8 HF2.out
    go_wp2_with fail
    clear t0 t1 t2 t3 t4 t5 t6 t7
    refine tail_begin (fun w' => w'.cell? ⟨w.heap.size, 7, none⟩ = some (.slice A' n' c')) 8 (by kernel_rfl) (row8 HFd.out).1.2.2.2.2.2.2.2 (fun hS' => ?_)
    obtain ⟨wd, hwd⟩ : ∃ q, w2.drew = q := ⟨_, rfl⟩
    rw [hwd] at hS' HFd HSd HGd ⊢
    clear hwd
    refine tail_take 0 rfl (by kernel_rfl) (by kernel_rfl) (by kernel_rfl) (by kernel_rfl) (fun _ _ _ h => h) (by rfl) (v := ?_) ?_ (by assumption) ?_
    rotate_left 1
    · intro w' hS'; (try dsimp only at hS'); go_simp; try with_reducible rfl
    try simp only [Act.put, List.setIfInBounds_toArray, List.set_cons_zero, List.set_cons_succ]
    refine tail_take 1 rfl (by kernel_rfl) (by kernel_rfl) (by kernel_rfl) (by kernel_rfl) (fun _ _ _ h => h) (by rfl) (v := ?_) ?_ (by assumption) ?_
    rotate_left 1
    · intro w' hS'; (try dsimp only at hS'); go_simp; try with_reducible rfl
    try simp only [Act.put, List.setIfInBounds_toArray, List.set_cons_zero, List.set_cons_succ]
    refine tail_take 2 rfl (by kernel_rfl) (by kernel_rfl) (by kernel_rfl) (by kernel_rfl) (fun _ _ _ h => h) (by rfl) (v := ?_) ?_ (by assumption) ?_
    rotate_left 1
    · intro w' hS'; (try dsimp only at hS'); go_simp; try with_reducible rfl
    try simp only [Act.put, List.setIfInBounds_toArray, List.set_cons_zero, List.set_cons_succ]
    refine tail_take 4 rfl (by kernel_rfl) (by kernel_rfl) (by kernel_rfl) (by kernel_rfl) (fun _ _ _ h => h) (by rfl) (v := ?_) ?_ (by assumption) ?_
    rotate_left 1
    · intro w' hS'; (try dsimp only at hS'); go_simp; try with_reducible rfl
    try simp only [Act.put, List.setIfInBounds_toArray, List.set_cons_zero, List.set_cons_succ]
    refine tail_two 3 5 rfl rfl (by kernel_rfl) rfl rfl (fun K' hK => ?_) (fun K' hK => ?_)
    · go_simp
      have hbz : Below wd.heap.size wd (wd.alloc (.cells #[.int .i64 (-1), .int .i64 (n' : Int)] 2)) := (Below.refl _ _).alloc (Nat.le_refl _) _
      have HFa := hide (heap_nextG HFd.out hbz)
      have HSa := hide (HSd.out.below hbz HSd.out.lt)
      have HGa := hide (grown_blw HGd.out hbz HGd.out.size)
      have HO := hide (heap_alloc_new wd (.cells #[.int .i64 (-1), .int .i64 (n' : Int)] 2))
      obtain ⟨bO, hbO⟩ : ∃ b, wd.heap.size = b := ⟨_, rfl⟩
      have HBO := hide (show g < bO by rw [← hbO]; exact HSd.out.lt)
      refine hK.out _ _ (by (try dsimp only); exact (row8 HFa.out).1.2.2.2.2.2.2.2) (fun hS' => ?_)
      clear hK K'
      try simp only [Act.put, List.setIfInBounds_toArray, List.set_cons_zero, List.set_cons_succ]
      obtain ⟨wa, hwz⟩ : ∃ wz, wd.alloc (.cells #[.int .i64 (-1), .int .i64 (n' : Int)] 2) = wz := ⟨_, rfl⟩
      rw [hwz] at hS' HFa HSa HGa HO ⊢
      rw [hbO] at HO ⊢
      clear hwz hbz hbO
      refine tail_call 5 rfl (by kernel_rfl) rfl (fun K' hK => ?_)
      go_simp
      go_at_call 83; refine (HNX.out 2 _ HSa.out (by decide)).mono ?_; rintro e wb ⟨z, rfl, hz0, hz1, hSb, hgb⟩
      have HFb := hide (row_grownF HFa.out hgb (by have := HGL.out; omega))
      have HGb := hide (grown_one HGa.out hgb)
      have HSb := hide hSb
      have HO' := hide (row_grownF HO.out hgb (by have := HBO.out; omega))
      clear HO
      have HO := HO'
      clear HO'
      clear hgb hSb
      refine hK.out _ _ (by (try dsimp only); exact (row8 HFb.out).1.2.2.2.2.2.2.2) (fun hS' => ?_)
      clear hK K'
      try simp only [Act.put, List.setIfInBounds_toArray, List.set_cons_zero, List.set_cons_succ]
      obtain ⟨i, hi, rfl⟩ : ∃ i : Nat, i < 2 ∧ z = i := ⟨z.toNat, by omega, by omega⟩
      clear hz0 hz1
      obtain rfl | rfl : i = 0 ∨ i = 1 := by omega
      · have hkc := cell_of_row wb bO 0 _ _ _ HO.out
        refine tail_call 6 rfl (by kernel_rfl) rfl (fun K' hK => ?_)
        go_simp
        refine hK.out _ _ (by (try dsimp only); exact (row8 HFb.out).1.2.2.2.2.2.2.2) (fun hS' => ?_)
        clear hK K'
        try simp only [Act.put, List.setIfInBounds_toArray, List.set_cons_zero, List.set_cons_succ]
        refine tail_call 7 rfl (by kernel_rfl) rfl (fun K' hK => ?_)
        go_simp
        refine hK.out _ _ (by (try dsimp only); exact (row8 HFb.out).1.2.2.2.2.2.2.2) (fun hS' => ?_)
        clear hK K'
        try simp only [Act.put, List.setIfInBounds_toArray, List.set_cons_zero, List.set_cons_succ]
        refine tail_last 8 rfl (by kernel_rfl) (by kernel_rfl) rfl rfl (fun K' hK => ?_)
        go_simp
        refine hK.out _ _ ?_
        clear hK K' hS'
        try simp only [Act.put, List.setIfInBounds_toArray, List.set_cons_zero, List.set_cons_succ]
        go_wp2_with fail
        go_ret
        exact ⟨_, rfl, HSb.out, HGb.out⟩
      · have hkc := cell_of_row wb bO 1 _ _ _ HO.out
        refine tail_call 6 rfl (by kernel_rfl) rfl (fun K' hK => ?_)
        go_simp
        refine hK.out _ _ (by (try dsimp only); exact (row8 HFb.out).1.2.2.2.2.2.2.2) (fun hS' => ?_)
        clear hK K'
        try simp only [Act.put, List.setIfInBounds_toArray, List.set_cons_zero, List.set_cons_succ]
        refine tail_call 7 rfl (by kernel_rfl) rfl (fun K' hK => ?_)
        go_simp
        refine hK.out _ _ (by (try dsimp only); exact (row8 HFb.out).1.2.2.2.2.2.2.2) (fun hS' => ?_)
        clear hK K'
        try simp only [Act.put, List.setIfInBounds_toArray, List.set_cons_zero, List.set_cons_succ]
        refine tail_last 8 rfl (by kernel_rfl) (by kernel_rfl) rfl rfl (fun K' hK => ?_)
        go_simp
        refine hK.out _ _ ?_
        clear hK K' hS'
        try simp only [Act.put, List.setIfInBounds_toArray, List.set_cons_zero, List.set_cons_succ]
        go_wp2_with fail
        go_ret
        exact ⟨_, rfl, HSb.out, HGb.out⟩
    · go_simp
      go_at_call 83; refine (HNX.out 2 _ HSd.out (by decide)).mono ?_; rintro e wa ⟨z, rfl, hz0, hz1, hSb, hgb⟩
      have HFa := hide (row_grownF HFd.out hgb (by have := HGL.out; omega))
      have HGa := hide (grown_one HGd.out hgb)
      have HSa := hide hSb
      clear hgb hSb
      refine hK.out _ _ (by (try dsimp only); exact (row8 HFa.out).1.2.2.2.2.2.2.2) (fun hS' => ?_)
      clear hK K'
      try simp only [Act.put, List.setIfInBounds_toArray, List.set_cons_zero, List.set_cons_succ]
      refine tail_call 3 rfl (by kernel_rfl) rfl (fun K' hK => ?_)
      go_simp
      have hbz : Below wa.heap.size wa (wa.alloc (.cells #[.int .i64 (-1), .int .i64 (n' : Int)] 2)) := (Below.refl _ _).alloc (Nat.le_refl _) _
      have HFb := hide (heap_nextG HFa.out hbz)
      have HSb := hide (HSa.out.below hbz HSa.out.lt)
      have HGb := hide (grown_blw HGa.out hbz HGa.out.size)
      have HO := hide (heap_alloc_new wa (.cells #[.int .i64 (-1), .int .i64 (n' : Int)] 2))
      obtain ⟨bO, hbO⟩ : ∃ b, wa.heap.size = b := ⟨_, rfl⟩
      have HBO := hide (show g < bO by rw [← hbO]; exact HSa.out.lt)
      refine hK.out _ _ (by (try dsimp only); exact (row8 HFb.out).1.2.2.2.2.2.2.2) (fun hS' => ?_)
      clear hK K'
      try simp only [Act.put, List.setIfInBounds_toArray, List.set_cons_zero, List.set_cons_succ]
      obtain ⟨wb, hwz⟩ : ∃ wz, wa.alloc (.cells #[.int .i64 (-1), .int .i64 (n' : Int)] 2) = wz := ⟨_, rfl⟩
      rw [hwz] at hS' HFb HSb HGb HO ⊢
      rw [hbO] at HO ⊢
      clear hwz hbz hbO
      obtain ⟨i, hi, rfl⟩ : ∃ i : Nat, i < 2 ∧ z = i := ⟨z.toNat, by omega, by omega⟩
      clear hz0 hz1
      obtain rfl | rfl : i = 0 ∨ i = 1 := by omega
      · have hkc := cell_of_row wb bO 0 _ _ _ HO.out
        refine tail_call 6 rfl (by kernel_rfl) rfl (fun K' hK => ?_)
        go_simp
        refine hK.out _ _ (by (try dsimp only); exact (row8 HFb.out).1.2.2.2.2.2.2.2) (fun hS' => ?_)
        clear hK K'
        try simp only [Act.put, List.setIfInBounds_toArray, List.set_cons_zero, List.set_cons_succ]
        refine tail_call 7 rfl (by kernel_rfl) rfl (fun K' hK => ?_)
        go_simp
        refine hK.out _ _ (by (try dsimp only); exact (row8 HFb.out).1.2.2.2.2.2.2.2) (fun hS' => ?_)
        clear hK K'
        try simp only [Act.put, List.setIfInBounds_toArray, List.set_cons_zero, List.set_cons_succ]
        refine tail_last 8 rfl (by kernel_rfl) (by kernel_rfl) rfl rfl (fun K' hK => ?_)
        go_simp
        refine hK.out _ _ ?_
        clear hK K' hS'
        try simp only [Act.put, List.setIfInBounds_toArray, List.set_cons_zero, List.set_cons_succ]
        go_wp2_with fail
        go_ret
        exact ⟨_, rfl, HSb.out, HGb.out⟩
      · have hkc := cell_of_row wb bO 1 _ _ _ HO.out
        refine tail_call 6 rfl (by kernel_rfl) rfl (fun K' hK => ?_)
        go_simp
        refine hK.out _ _ (by (try dsimp only); exact (row8 HFb.out).1.2.2.2.2.2.2.2) (fun hS' => ?_)
        clear hK K'
        try simp only [Act.put, List.setIfInBounds_toArray, List.set_cons_zero, List.set_cons_succ]
        refine tail_call 7 rfl (by kernel_rfl) rfl (fun K' hK => ?_)
        go_simp
        refine hK.out _ _ (by (try dsimp only); exact (row8 HFb.out).1.2.2.2.2.2.2.2) (fun hS' => ?_)
        clear hK K'
        try simp only [Act.put, List.setIfInBounds_toArray, List.set_cons_zero, List.set_cons_succ]
        refine tail_last 8 rfl (by kernel_rfl) (by kernel_rfl) rfl rfl (fun K' hK => ?_)
        go_simp
        refine hK.out _ _ ?_
        clear hK K' hS'
        try simp only [Act.put, List.setIfInBounds_toArray, List.set_cons_zero, List.set_cons_succ]
        go_wp2_with fail
        go_ret
        exact ⟨_, rfl, HSb.out, HGb.out⟩
  have hzz : (z == 0) = false := by simpa using hz
  clear hz0 hz1 hz
  obtain ⟨⟨t0, t1, t2, t3, t4, t5, t6, t7⟩, _⟩ := row8 HF2.out
  go_wp2_with fail
  clear t0 t1 t2 t3 t4 t5 t6 t7
  clear hzz
  refine (HNX.out n' _ HS2.out (by have := HN.out; omega)).mono ?_
  rintro e w3 ⟨z, rfl, hz0, hz1, hSb, hgb⟩
  have HF3 := hide (row_grownF HF2.out hgb (by have := HGL.out; omega))
  have HG3 := hide (grown_one HG2.out hgb)
  have HS3 := hide hSb
  clear hSb hgb
  go_wp2_with fail
  go_ret
  exact ⟨_, rfl, HS3.out, HG3.out⟩
end Go.Proofs.Ytncgeoliboidhaa
