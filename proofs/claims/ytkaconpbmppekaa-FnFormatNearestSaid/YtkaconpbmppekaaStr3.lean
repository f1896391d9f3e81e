/-
  The contracts of BitsText and ReadBits, of the program and of the model.
  Condition: the slices and strings are shorter than 2^40.
-/
import Derived.Test.YtkaconpbmppekaaStr2
namespace Go.Proofs.Ytkaconpbmppekaa
open Go.RowKit

def TextRel (n : Nat) (zs : List Int) (w : World) (i : Value) (wr : World) : Prop :=
  ∃ k : Nat, k ≤ n ∧ i = .int .i64 k ∧ Own wr w.heap.size 5 .u8 (.slice (some ⟨w.heap.size, 0, none⟩) n n) (zs.take k ++ List.replicate (n - k) 0) ∧ Below w.heap.size w wr

set_option maxHeartbeats 1000000 in
theorem implText (A : Option Addr) (n c B : Nat) (zs : List Int) (w : World) (hI : Ints .i64 w B A n zs) (hB : B ≤ w.heap.size) (hn : n ≤ 1099511627776) :
    Calls Try.prog 50 #[.slice A n c] w (Gives (.string (textOf zs)) w) := by
  have hl := hide hI.len
  have HI := hide hI
  clear hI
  rcases hb : isBits zs with _ | _
  · have HB := hide hb
    have HF := hide (show textOf zs = ⟨#[]⟩ by rw [textOf, if_neg (by rw [hb]; decide)])
    clear hb
    rw [HF.out]
    go_enter Try.func50, Try.ntmps50
    go_wp2_with fail
    refine (implIsBits_no A n c B zs w HI hn HB).mono ?_
    rintro e w ⟨rfl, rfl⟩
    go_wp2_with fail
    go_ret
    exact ⟨rfl, Below.refl _ _⟩
  · have HB := hide hb
    have HF := hide (show textOf zs = strOf (textB zs) by rw [textOf, if_pos hb])
    have HAll := hide (isBits_all hb)
    have HL := hide (show (textB zs).length = n by rw [textB_len]; exact hl)
    clear hb
    rw [HF.out]
    go_enter Try.func50, Try.ntmps50
    go_wp2_with fail
    refine (implIsBits_yes A n c B zs w HI hn HB).mono ?_
    rintro e w ⟨rfl, rfl⟩
    go_wp2_with (at_make; refine wpList_mkN _ rfl _ _ _ rfl elem8 .i64 .i64 _ _ n rfl rfl (by omega) (by omega) (by omega) ?_; intro w1 hown hbel; have HO := hide hown; have HBl := hide hbel; clear hown hbel)
    go_loopw [14] (fun i wr => TextRel n (textB zs) w i wr) (fun i _ => n - (intOf i).toNat)
    case atStart => exact ⟨0, by omega, rfl, by simpa using HO.out, HBl⟩
    case round =>
      clear HO HBl w1
      obtain ⟨k, hk, rfl, hOwn, hBl⟩ := hrel
      have HO := hide hOwn
      have HBl := hide hBl
      clear hOwn hBl
      by_cases hlt : k < n
      · obtain ⟨b, off, x, rfl, hb, hx, hc⟩ := (HI.out.below (HBl.out.mono hB)).at_ hlt
        have hxb := HAll.out x (List.mem_of_getElem? hx)
        have hx0 : 0 ≤ x := by omega
        have hx1 : x ≤ 1 := by omega
        have HS := hide (textB_at hx)
        clear hx hxb
        have hc2 : wr.cell? ⟨w.heap.size, k, none⟩ = some (.int .u8 0) := HO.out.cellAt (by
          rw [List.getElem?_append_right (by rw [List.length_take]; omega), List.length_take, show k - min k (textB zs).length = 0 by rw [HL.out]; omega, List.getElem?_replicate, if_pos (by omega)])
        have hf2 : wr.frozen? ⟨w.heap.size, k, none⟩ = false := HO.out.frozenAt k
        go_wp2
        go_roundw
        case rel =>
          refine ⟨k + 1, by omega, by go_num, ?_, HBl.out.setCell (Nat.le_refl _) _⟩
          have := (HO.out.stored k (48 + x)).1
          rw [show n - k = (n - (k + 1)) + 1 by omega, List.replicate_succ, set_snoc HS] at this
          exact this
        case measure => simp [intOf]; omega
      · have HO' := hide (show Own wr w.heap.size 5 .u8 (.slice (some ⟨w.heap.size, 0, none⟩) n n) (textB zs) by
          have h := HO.out
          rw [List.take_of_length_le (by rw [HL.out]; omega), show n - k = 0 by omega] at h
          simpa using h)
        have hconv := run_str wr elem8 Try.underlying5 Try.underlying9 n HO'.out.ints
        rw [HL.out] at hconv
        go_wp2
        go_ret
        exact ⟨rfl, HBl⟩

def TextRel2 (n : Nat) (zs : List Int) (w : World) (v i : Value) (wr : World) : Prop :=
  ∃ k : Nat, k ≤ n ∧ i = .int .i64 k ∧ Own wr w.heap.size 5 .u8 v (zs.take k) ∧ Below w.heap.size w wr

set_option maxHeartbeats 1000000 in
theorem specText (A : Option Addr) (n c B : Nat) (zs : List Int) (w : World) (hI : Ints .i64 w B A n zs) (hB : B ≤ w.heap.size) (hn : n ≤ 1099511627776) :
    Calls Try.prog 51 #[.slice A n c] w (Gives (.string (textOf zs)) w) := by
  have hl := hide hI.len
  have HI := hide hI
  clear hI
  rcases hb : isBits zs with _ | _
  · have HB := hide hb
    have HF := hide (show textOf zs = strOf [] by rw [textOf, if_neg (by rw [hb]; decide), strOf_nil])
    clear hb
    rw [HF.out]
    go_enter Try.func51, Try.ntmps51
    go_wp2
    refine wp_loop_rounds 1 ?_
    rw [rounds_succ]
    have hconv : (convert 22 9 (.slice (some ⟨w.heap.size, 0, none⟩) 0 0)).run Try.prog (w.alloc (.cells #[] 5)) = .ok (.string (strOf [])) (w.alloc (.cells #[] 5)) := run_str (w.alloc (.cells #[] 5)) elem8 Try.underlying5 Try.underlying9 0 (Own.lit0 w 5 .u8).ints
    have HI2 := hide (HI.out.below ((Below.refl B w).alloc hB (.cells #[] 5)))
    by_cases h0 : n = 0
    · subst h0
      go_wp2_with fail
      go_ret
      exact ⟨rfl, (Below.refl _ _).alloc (Nat.le_refl _) _⟩
    · have hp : 0 < n := by omega
      have hp2 : (0 : Int) < (n : Int) := by omega
      go_wp2_with (go_at_call 63; refine (specIsBits_no A n c B zs _ HI2 hn HB).mono ?_; rintro e w2 ⟨rfl, rfl⟩)
      go_ret
      exact ⟨rfl, (Below.refl _ _).alloc (Nat.le_refl _) _⟩
  · have HB := hide hb
    have HF := hide (show textOf zs = strOf (textB zs) by rw [textOf, if_pos hb])
    have HAll := hide (isBits_all hb)
    have HL := hide (show (textB zs).length = n by rw [textB_len]; exact hl)
    clear hb
    rw [HF.out]
    go_enter Try.func51, Try.ntmps51
    go_wp2
    go_loopw [3, 4] (fun v i wr => TextRel2 n (textB zs) w v i wr) (fun _ i _ => n - (intOf i).toNat)
    case atStart => exact ⟨0, by omega, rfl, Own.lit0 w _ _, (Below.refl _ _).alloc (Nat.le_refl _) _⟩
    case round =>
      obtain ⟨u, rfl⟩ : ∃ u : Value, u = u3 := ⟨_, rfl⟩
      obtain ⟨k, hk, rfl, hOwn, hBl⟩ := hrel
      have HO := hide hOwn
      have HBl := hide hBl
      clear hOwn hBl
      by_cases hlt : k < n
      · have HI2 := hide (HI.out.below (HBl.out.mono hB))
        obtain ⟨b, off, x, rfl, hb, hx, hc⟩ := HI2.out.at_ hlt
        have hxb := HAll.out x (List.mem_of_getElem? hx)
        have hx0 : 0 ≤ x := by omega
        have hx1 : x ≤ 1 := by omega
        have HS := hide (textB_at hx)
        clear hx hxb
        have hbz : w.heap.size ≤ wr.heap.size := HBl.out.size
        have hlen : ((textB zs).take k).length + 1 ≤ 1099511627777 := by rw [List.length_take, HL.out]; omega
        have hlt2 : (k : Int) < (n : Int) := by omega
        go_wp2_with fail
        refine (specIsBits_yes _ n c B zs wr HI2 hn HB).mono ?_
        rintro e wr ⟨rfl, rfl⟩
        go_wp2_with (at_builtin; refine wpList_app1 wr rfl _ _ _ rfl elem8 w.heap.size u _ rfl HO.out (48 + x) rfl (by omega) hbz ?_; intro v' w1 hown1 hgrow)
        have HO1 := hide hown1
        have HG1 := hide hgrow
        clear hown1 hgrow
        go_wp2
        go_roundw
        case rel =>
          refine ⟨k + 1, by omega, by go_num, ?_, HBl.out.grown HG1 hbz (fun g hg => (HO.out.lt hg).1)⟩
          rw [take_snocI HS]
          exact HO1
        case measure => simp [intOf]; omega
      · have HO' := hide (show Own wr w.heap.size 5 .u8 u (textB zs) by
          have h := HO.out
          rw [List.take_of_length_le (by rw [HL.out]; omega)] at h
          exact h)
        clear HO
        obtain ⟨A1, c1, rfl, hc1⟩ := HO'.out.form
        have hconv := run_str wr elem8 Try.underlying5 Try.underlying9 c1 HO'.out.ints
        clear hc1
        have hd : decide ((k : Int) < (n : Int)) = false := by simp; omega
        go_wp2_with fail
        go_ret
        exact ⟨rfl, HBl⟩

/-- What a function leaves that returns a new slice of integers and a bool. -/
def NewIntsB (e : TypeId) (k : IntKind) (zs : List Int) (b : Bool) (w : World) (x : Ending) (w' : World) : Prop :=
  ∃ A c, x = .returned (.tuple #[.slice A zs.length c, .bool b]) ∧ zs.length ≤ c ∧ Own w' w.heap.size e k (.slice A zs.length c) zs ∧ Below w.heap.size w w'
theorem newB_nil {e : TypeId} {k : IntKind} {b : Bool} {w w' : World} (h : Below w.heap.size w w') : NewIntsB e k [] b w (.returned (.tuple #[.slice none 0 0, .bool b])) w' :=
  ⟨none, 0, rfl, Nat.le_refl _, nilOwn _ _ _ _, h⟩

def ReadRel (n : Nat) (bs : List Int) (w : World) (i : Value) (wr : World) : Prop :=
  ∃ k : Nat, k ≤ n ∧ i = .int .i64 k ∧ (bs.take k).all isDig = true ∧ Own wr w.heap.size 2 .i64 (.slice (some ⟨w.heap.size, 0, none⟩) n n) ((unB bs).take k ++ List.replicate (n - k) 0) ∧ Below w.heap.size w wr

def ReadRel2 (n : Nat) (bs : List Int) (w : World) (v i : Value) (wr : World) : Prop :=
  ∃ k : Nat, k ≤ n ∧ i = .int .i64 k ∧ (bs.take k).all isDig = true ∧ Own wr w.heap.size 2 .i64 v ((unB bs).take k) ∧ Below w.heap.size w wr

end Go.Proofs.Ytkaconpbmppekaa
