/-
  The model's functions of segments: the characters and values of the modes, which segments are valid, the widths and lengths.
  Condition: as each statement says.
-/
import Derived.Test.YthbmfaogjaahoaaSg1
namespace Go.Proofs.Ythbmfaogjaahoaa
open Go.RowKit
set_option linter.unusedSimpArgs false
set_option linter.unusedVariables false

theorem specSet (m : Int) (w : World) : Calls Try.prog 112 #[.int .i64 m] w fun e w' => e = .returned (.string (stS m)) ∧ w' = w := by
  by_cases h1 : m = 1
  · subst h1
    go_enter Try.func112, Try.ntmps112
    go_wp2_with fail
    go_ret
    exact ⟨rfl, rfl⟩
  · by_cases h2 : m = 2
    · subst h2
      go_enter Try.func112, Try.ntmps112
      go_wp2_with fail
      go_ret
      exact ⟨rfl, rfl⟩
    · by_cases h3 : m = 3
      · subst h3
        go_enter Try.func112, Try.ntmps112
        go_wp2_with fail
        go_ret
        exact ⟨rfl, rfl⟩
      · have e1 : (m == 1) = false := by simpa using h1
        have e2 : (m == 2) = false := by simpa using h2
        have e3 : (m == 3) = false := by simpa using h3
        have hs : stS m = { data := #[] } := by unfold stS; rw [if_neg h1, if_neg h2, if_neg h3]; rfl
        have HS := hide hs
        clear h1 h2 h3 hs
        go_enter Try.func112, Try.ntmps112
        go_wp2_with fail
        go_ret
        exact ⟨by rw [HS.out]; rfl, rfl⟩

set_option maxRecDepth 100000 in
set_option maxHeartbeats 1000000 in
theorem specValue (m b : Int) (w : World) :
    Calls Try.prog 117 #[.int .i64 m, .int .i64 b] w fun e w' => e = .returned (.int .i64 (cval m b)) ∧ w' = w := by
  by_cases hb : b < 0 ∨ 255 < b
  · have HV := hide (cval_out hb m)
    go_enter Try.func117, Try.ntmps117
    go_wp2_with fail
    refine (specIn_no b 0 255 _ hb).mono ?_
    rintro e _ ⟨rfl, rfl⟩
    clear hb
    go_wp2_with fail
    go_ret
    exact ⟨ret_int HV.out, rfl⟩
  · by_cases hm : m < 1 ∨ 4 < m
    · have HV := hide (cval_mode hm b)
      go_enter Try.func117, Try.ntmps117
      go_wp2_with fail
      refine (specIn_yes b 0 255 _ (by omega) (by omega)).mono ?_
      rintro e _ ⟨rfl, rfl⟩
      go_wp2_with fail
      refine (specIn_no m 1 4 _ hm).mono ?_
      rintro e _ ⟨rfl, rfl⟩
      clear hb hm
      go_wp2_with fail
      go_ret
      exact ⟨ret_int HV.out, rfl⟩
    · by_cases h4 : m = 4
      · subst h4
        have HV := hide (cval_byte (b := b) (by omega) (by omega))
        go_enter Try.func117, Try.ntmps117
        go_wp2_with fail
        refine (specIn_yes b 0 255 _ (by omega) (by omega)).mono ?_
        rintro e _ ⟨rfl, rfl⟩
        go_wp2_with fail
        refine (specIn_yes 4 1 4 _ (by omega) (by omega)).mono ?_
        rintro e _ ⟨rfl, rfl⟩
        clear hb hm
        go_wp2_with fail
        go_ret
        exact ⟨ret_int HV.out, rfl⟩
      · have hm3 : m = 1 ∨ m = 2 ∨ m = 3 := by omega
        have HV := hide (cval_pos (b := b) hm3)
        have HL := hide (stS_chars hm3)
        have hsz := stS_size hm3
        have hg : gbase m ≤ 256 := by rcases hm3 with rfl | rfl | rfl <;> decide
        rw [← hsz] at hg
        have e4 : (m == 4) = false := by simpa using h4
        go_enter Try.func117, Try.ntmps117
        go_wp2_with fail
        refine (specIn_yes b 0 255 _ (by omega) (by omega)).mono ?_
        rintro e _ ⟨rfl, rfl⟩
        go_wp2_with fail
        refine (specIn_yes m 1 4 _ (by omega) (by omega)).mono ?_
        rintro e _ ⟨rfl, rfl⟩
        clear hb hm h4 hm3 hsz
        go_wp2_with fail
        refine (specSet m _).mono ?_
        rintro e _ ⟨rfl, rfl⟩
        obtain ⟨s, hs⟩ : ∃ s, stS m = s := ⟨_, rfl⟩
        rw [hs] at HL hg ⊢
        clear e4 hs
        go_wp2_with fail
        go_loop [6] (fun i => ∃ k : Nat, k ≤ s.size ∧ i = .int .i64 k ∧ Hid (posOf ((bytesI s).drop k) b k = cval m b)) (fun i => s.size - (intOf i).toNat)
        case atStart => exact ⟨0, by omega, rfl, by rw [HV.out, ← HL.out]; rfl⟩
        case round =>
          obtain ⟨k, hk, rfl, hp⟩ := hrel
          by_cases hlt : k < s.size
          · obtain ⟨y, hy, hy2, hy0, hy1⟩ := byteAt s hlt
            have HY := hide hy2
            have hST := pos_step (b := b) hy2
            clear hy2
            by_cases hyb : y = b
            · rw [if_pos hyb] at hST
              have HE := hide (hp.out.symm.trans hST)
              have e5 : (y == b) = true := by simpa using hyb
              clear hST hyb hp
              go_wp2_with fail
              go_ret
              exact ⟨ret_int HE.out, rfl⟩
            · rw [if_neg hyb] at hST
              have HE := hide (hST.symm.trans hp.out)
              have e5 : (y == b) = false := by simpa using hyb
              clear hST hyb hp
              go_wp2_with fail
              go_round
              case rel => exact ⟨k + 1, by omega, by go_num, HE⟩
              case measure => simp [intOf]; omega
          · have HE := hide (hp.out.symm.trans (pos_end (by rw [bytesI_len]; omega)))
            clear hp
            go_wp2_with fail
            go_ret
            exact ⟨ret_int HE.out, rfl⟩

end Go.Proofs.Ythbmfaogjaahoaa
