/-
  The joined text of a list of segments, on both sides; whether a list is a segmentation of a message.
  Condition: as each statement says.
-/
import Derived.Test.YthbmfaogjaahoaaSq3
import Derived.Test.YthbmfaogjaahoaaSm1
import Derived.Test.YthbmfaogjaahoaaSbLay
namespace Go.Proofs.Ythbmfaogjaahoaa
open Go.RowKit
set_option linter.unusedSimpArgs false
set_option linter.unusedVariables false

def jn (T : Nat → ByteArray) : Nat → ByteArray
  | 0 => ⟨#[]⟩
  | k + 1 => jn T k ++ T k
theorem jn_size (T : Nat → ByteArray) (k : Nat) : (jn T (k + 1)).size = (jn T k).size + (T k).size := by rw [jn, ByteArray.size_append]
theorem jn_list (T : Nat → ByteArray) (k : Nat) : (jn T (k + 1)).data.toList = (jn T k).data.toList ++ (T k).data.toList := by rw [jn]; simp
theorem jn_le {M : Nat → Int} {T : Nat → ByteArray} : ∀ k, slAll M T k → (jn T k).size ≤ 255 * k := by
  intro k
  induction k with
  | zero => intro _; show (0 : Nat) ≤ _; omega
  | succ k ih =>
    intro h
    have h1 := ih (fun j hj => h j (by omega))
    have h2 := (seg_ok (h k (by omega))).2.1
    rw [bytesI_len] at h2
    rw [jn_size]; omega
/-- The code of JoinSegments, and its text. -/
noncomputable def jsCode (M : Nat → Int) (T : Nat → ByteArray) (n : Nat) : Int := if slCode M T n = 0 then (if 400 < (jn T n).size then 3 else 0) else slCode M T n
noncomputable def jsOf (M : Nat → Int) (T : Nat → ByteArray) (n : Nat) : ByteArray := if jsCode M T n = 0 then jn T n else ⟨#[]⟩
theorem js_bad {M : Nat → Int} {T : Nat → ByteArray} {n : Nat} (h : slCode M T n ≠ 0) : jsCode M T n = slCode M T n ∧ jsOf M T n = ⟨#[]⟩ := by
  have : jsCode M T n = slCode M T n := by unfold jsCode; rw [if_neg h]
  exact ⟨this, by unfold jsOf; rw [this, if_neg h]⟩
theorem js_long {M : Nat → Int} {T : Nat → ByteArray} {n : Nat} (h : slCode M T n = 0) (hl : 400 < (jn T n).size) : jsCode M T n = 3 ∧ jsOf M T n = ⟨#[]⟩ := by
  have : jsCode M T n = 3 := by unfold jsCode; rw [if_pos h, if_pos hl]
  exact ⟨this, by unfold jsOf; rw [this]; rfl⟩
theorem js_ok {M : Nat → Int} {T : Nat → ByteArray} {n : Nat} (h : slCode M T n = 0) (hl : ¬ 400 < (jn T n).size) : jsCode M T n = 0 ∧ jsOf M T n = jn T n := by
  have : jsCode M T n = 0 := by unfold jsCode; rw [if_pos h, if_neg hl]
  exact ⟨this, by unfold jsOf; rw [if_pos this]⟩
/-- What a function leaves that returns a string and a code. -/
def GivSI (s : ByteArray) (r : Int) (w : World) (x : Ending) (w' : World) : Prop := x = .returned (.tuple #[.string s, .int .i64 r]) ∧ Below w.heap.size w w'
theorem ret_si {s t : ByteArray} {a b : Int} (h : t = s) (h' : b = a) : Ending.returned (.tuple #[.string s, .int .i64 a]) = .returned (.tuple #[.string t, .int .i64 b]) := by rw [h, h']
def JsRel (w : World) (n : Nat) (T : Nat → ByteArray) (t i : Value) (wr : World) : Prop :=
  ∃ (k : Nat) (q : ByteArray), k ≤ n ∧ i = .int .i64 k ∧ t = .string q ∧ Hid (jn T k = q) ∧ Below w.heap.size w wr
def JbRel (w : World) (b n : Nat) (T : Nat → ByteArray) (i : Value) (wr : World) : Prop :=
  ∃ k : Nat, k ≤ n ∧ i = .int .i64 k ∧ Bld b b (jn T k).data.toList wr ∧ Below w.heap.size w wr

set_option maxRecDepth 100000 in
set_option maxHeartbeats 1000000 in
theorem implJs (A : Option Addr) (n c B : Nat) (M : Nat → Int) (T : Nat → ByteArray) (w : World) (hI : Segs w B A n M T) (hB : B ≤ w.heap.size) (hn : n ≤ 1099511627776) (hT : ∀ j, j < n → (T j).size ≤ 1099511627776) :
    Calls Try.prog 77 #[.slice A n c] w (GivSI (jsOf M T n) (jsCode M T n) w) := by
  have HI := hide hI
  have HSL := hide (implSl A n c B M T w hI hB hn hT)
  clear hI hT
  rcases sl_cases M T n with h | h | ⟨h, hn4, hall⟩
  case inr.inr =>
    have HALL := hide hall
    have hsz := jn_le n hall
    obtain ⟨q, hq⟩ : ∃ q, slOf M T n = q := ⟨_, rfl⟩
    rw [h, hq] at HSL
    have HH := hide h
    clear h hq hall
    have HLE := hide (fun k (hk : k ≤ n) => jn_le (M := M) (T := T) k (fun j hj => HALL.out j (by omega)))
    go_enter Try.func77, Try.ntmps77
    go_wp2_with fail
    refine HSL.out.mono ?_
    rintro e w1 ⟨rfl, hb1⟩
    have HB1 := hide hb1
    have HBL1 := hide (bld_new w1)
    have HB2 := hide (HB1.out.alloc HB1.out.size (.cells #[.pointer none, .slice none 0 0] 120))
    have hww : w.heap.size ≤ w1.heap.size := hb1.size
    clear hb1 HSL
    go_wp2_with fail
    go_loopw [19] (fun i wr => JbRel w w1.heap.size n T i wr) (fun i _ => n - (intOf i).toNat)
    case atStart => exact ⟨0, Nat.zero_le _, rfl, HBL1.out, HB2.out⟩
    case round =>
      clear HB1 HBL1 HB2
      obtain ⟨k, hk, rfl, hbl, hb⟩ := hrel
      have HBL := hide hbl
      have HB := hide hb
      clear hbl hb
      have HSZ := hide (HLE.out k hk)
      by_cases hlt : k < n
      · obtain ⟨b, off, rfl, hbb, hc⟩ := HI.out (by omega)
        obtain ⟨e0, e1⟩ : wr.cell? ⟨b, off + k * 2, none⟩ = some (.int .i64 (M k)) ∧ wr.cell? ⟨b, off + k * 2 + 1, none⟩ = some (.string (T k)) := ⟨(HB.out.cell (p := ⟨b, off + k * 2, none⟩) (by show b < _; omega)).trans (hc k hlt).1, (HB.out.cell (p := ⟨b, off + k * 2 + 1, none⟩) (by show b < _; omega)).trans (hc k hlt).2⟩
        have hs := (seg_ok (HALL.out k hlt)).2.1
        rw [bytesI_len] at hs
        have HJ1 := hide (jn_list T k)
        obtain ⟨s, hse⟩ : ∃ s, T k = s := ⟨_, rfl⟩
        obtain ⟨m, hm⟩ : ∃ m, M k = m := ⟨_, rfl⟩
        rw [hse] at e1 hs HJ1
        rw [hm] at e0
        have HX := hide (SBox.start wr 107 m s)
        obtain ⟨d0, d1⟩ := HX.out.cells
        have HBL2 := hide (HBL.out.below HX.out.2)
        have HB2 := hide (HB.out.trans (HX.out.2.mono HB.out.size))
        have hwz : w1.heap.size ≤ wr.heap.size + 1 := by
          have h3 := HBL.out
          have : w1.heap.size < wr.heap.size := by
            rcases h3 with h3 | h3 <;> exact Lib.BuilderAtF.lt h3
          omega
        have HWR := hide (bld_write w1.heap.size w1.heap.size (jn T k).data.toList s _ HBL2.out (by have := HSZ.out; show (jn T k).size ≤ _; omega) (by omega) (by rw [alloc_size]; exact hwz))
        clear hse hc hm
        go_wp2_with fail
        refine HWR.out.mono ?_
        rintro e w2 ⟨rfl, hbl2, hb2⟩
        have HBL3 := hide (show Bld w1.heap.size w1.heap.size (jn T (k + 1)).data.toList w2 by rw [HJ1.out]; exact hbl2)
        have HB3 := hide (HB2.out.trans (hb2.mono hww))
        clear hbl2 hb2 HWR e0 e1 d0 d1
        go_wp2_with fail
        go_roundw
        case rel => exact ⟨k + 1, by omega, by go_num, HBL3.out, HB3.out⟩
        case measure => simp [intOf]; omega
      · obtain rfl : k = n := by omega
        have hlt1 : w1.heap.size < wr.heap.size := by
          rcases HBL.out with h3 | h3 <;> exact Lib.BuilderAtF.lt h3
        have HST := hide (bld_string w1.heap.size w1.heap.size (jn T k).data.toList wr HBL.out (by omega))
        have HQ := hide (show (⟨(jn T k).data.toList.toArray⟩ : ByteArray) = jn T k by simp)
        rw [HQ.out] at HST
        obtain ⟨q, hq⟩ : ∃ q, jn T k = q := ⟨_, rfl⟩
        have HJ := hide hq
        rw [hq] at HST HSZ
        have hqs : q.size ≤ 102000 := by have := HSZ.out; omega
        clear hq
        go_wp2_with fail
        refine HST.out.mono ?_
        rintro e w2 ⟨rfl, hbl2, hb2⟩
        have HST2 := hide (bld_string w1.heap.size w1.heap.size q.data.toList w2 hbl2 (by have := hb2.size; omega))
        have HB2 := hide (HB.out.trans (hb2.mono hww))
        have HQ2 := hide (show (⟨q.data.toList.toArray⟩ : ByteArray) = q by simp)
        rw [HQ2.out] at HST2
        clear hbl2 hb2 HST
        by_cases hl : q.size ≤ 400
        · obtain ⟨h1, h2⟩ := js_ok HH.out (show ¬ 400 < (jn T k).size by rw [HJ.out]; omega)
          have H1 := hide h1
          have H2 := hide (h2.trans HJ.out)
          clear h1 h2
          go_wp2_with fail
          refine (implIsMsg_yes q hl _).mono ?_
          rintro e _ ⟨rfl, rfl⟩
          go_wp2_with fail
          refine HST2.out.mono ?_
          rintro e w3 ⟨rfl, hbl3, hb3⟩
          have HB3 := hide (HB2.out.trans (hb3.mono hww))
          clear hbl3 hb3 HST2
          go_wp2_with fail
          go_ret2
          exact ⟨ret_si H2.out H1.out, HB3.out⟩
        · obtain ⟨h1, h2⟩ := js_long HH.out (show 400 < (jn T k).size by rw [HJ.out]; omega)
          have H1 := hide h1
          have H2 := hide h2
          clear h1 h2
          go_wp2_with fail
          refine (implIsMsg_no q (by omega) hl _).mono ?_
          rintro e _ ⟨rfl, rfl⟩
          go_wp2_with fail
          go_ret2
          exact ⟨ret_si H2.out H1.out, HB2.out⟩
  all_goals
    obtain ⟨h1, h2⟩ := js_bad (M := M) (T := T) (n := n) (by rw [h]; decide)
    rw [h] at h1
    obtain ⟨q, hq⟩ : ∃ q, slOf M T n = q := ⟨_, rfl⟩
    rw [h, hq] at HSL
    have H1 := hide h1
    have H2 := hide h2
    clear h h1 h2 hq
    go_enter Try.func77, Try.ntmps77
    go_wp2_with fail
    refine HSL.out.mono ?_
    rintro e w1 ⟨rfl, hb1⟩
    have HB1 := hide hb1
    clear hb1 HSL
    go_wp2_with fail
    go_ret2
    exact ⟨ret_si H2.out H1.out, HB1.out⟩

/-- Whether a list is a segmentation of a message. -/
noncomputable def isgB (M : Nat → Int) (T : Nat → ByteArray) (n : Nat) (s : ByteArray) : Bool := decide (jsCode M T n = 0) && ((jsOf M T n).toList == s.toList)

end Go.Proofs.Ythbmfaogjaahoaa
