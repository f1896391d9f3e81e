/-
  The contracts of the laws' own helpers on slices of int64: copy, compare, mark, ask for the marks.
  Condition: the slices are shorter than 2^40.
-/
import Derived.Test.YtncgeoliboidhaaProg
import Derived.Test.YtncgeoliboidhaaWords
import Derived.Deep.QuietTactic
import Derived.BigQuiet
namespace Go.Proofs.Ytncgeoliboidhaa
open Go.RowKit
theorem info64 : (Try.prog.info? 2).map (fun i => (i.zero, i.size, i.bytes)) = some (some (.int .i64 0), 1, 8) := by kernel_rfl

theorem elem64 : IsElem Try.prog 24 2 .i64 8 := ⟨Try.underlying24, info64, by omega⟩
theorem made_own {w1 : World} {base g n : Nat} {e : TypeId} (h : w1.ownsRow base e 1 (.slice (some ⟨g, 0, none⟩) n n) n (madeCells (Value.int .i64 0).cells (n * 1)).toList) :
    Own w1 base e .i64 (.slice (some ⟨g, 0, none⟩) n n) (List.replicate n 0) :=
  Own.intro h (by simp) (by rw [Nat.mul_one]; show (madeCells #[Value.int .i64 0] n).toList = _; rw [toList_madeCells_one, List.map_replicate])

def CopyRel (n : Nat) (zs : List Int) (w : World) (i : Value) (wr : World) : Prop :=
  ∃ k : Nat, k ≤ n ∧ i = .int .i64 k ∧ Own wr w.heap.size 2 .i64 (.slice (some ⟨w.heap.size, 0, none⟩) n n) (zs.take k ++ List.replicate (n - k) 0) ∧ Below w.heap.size w wr

set_option maxHeartbeats 400000 in
theorem toInts (A : Option Addr) (n c : Nat) (zs : List Int) (w : World) (hI : Ints .i64 w w.heap.size A n zs) (hn : n ≤ 1099511627776) :
    Calls Try.prog 37 #[.slice A n c] w (NewInts 2 .i64 zs w) := by
  have hl := hide hI.len
  have HI := hide hI
  clear hI
  obtain ⟨i0, hi0, hz0, hz1, hz2⟩ := info_parts info64
  have Hi0 := hide hi0
  have Hz0 := hide hz0
  have Hz1 := hide hz1
  have Hz2 := hide hz2
  clear hi0 hz0 hz1 hz2
  go_enter Try.func37, Try.ntmps37
  go_wp2_with (refine wpList_make_full _ rfl _ _ _ rfl w.heap.size 2 i0 (.int .i64 0) 1 Try.underlying24 Hi0 Hz0 Hz1 .i64 .i64 n n n rfl rfl rfl rfl (by rw [Hz2]; omega) (by unfold maxLen; omega) (Nat.le_refl _) ?_; intro w1 hown0 hgr0)
  have hOwn := hide (made_own hown0)
  have hB := hide ((Below.refl w.heap.size w).grown hgr0 (Nat.le_refl _) (by simp))
  clear hown0 hgr0
  go_wp2
  go_loopw [4] (fun i wr => CopyRel n zs w i wr) (fun i _ => n - (intOf i).toNat)
  case atStart => exact ⟨0, by omega, rfl, by simpa using hOwn.out, hB⟩
  case round =>
    clear hOwn hB w1
    obtain ⟨k, hk, rfl, hOwn, hB⟩ := hrel
    have HO := hide hOwn
    have HB := hide hB
    clear hOwn hB
    by_cases hlt : k < n
    · obtain ⟨b, off, x, rfl, hb, hx, hc⟩ := (HI.out.below HB).at_ hlt
      have HX := hide hx
      clear hx
      have hc2 : wr.cell? ⟨w.heap.size, k, none⟩ = some (.int .i64 0) := HO.out.cellAt (by
        rw [List.getElem?_append_right (by rw [List.length_take]; omega), List.length_take, show k - min k zs.length = 0 by rw [hl]; omega, List.getElem?_replicate, if_pos (by omega)])
      have hf2 : wr.frozen? ⟨w.heap.size, k, none⟩ = false := HO.out.frozenAt k
      go_wp2
      go_roundw
      case rel =>
        refine ⟨k + 1, by omega, by go_num, ?_, HB.out.setCell (Nat.le_refl _) _⟩
        have := (HO.out.stored k x).1
        rw [show n - k = (n - (k + 1)) + 1 by omega, List.replicate_succ, set_snoc HX] at this
        exact this
      case measure => simp [intOf]; omega
    · have HE := hide (show n = k by omega)
      go_wp2
      go_ret
      have hz : zs.take k ++ List.replicate (n - k) 0 = zs := by
        rw [List.take_of_length_le (by rw [hl]; omega), show n - k = 0 by omega]; simp
      rw [hz] at HO
      have hl' : n = zs.length := hl.out.symm
      subst hl'
      exact ⟨_, _, rfl, Nat.le_refl _, HO, HB⟩

/-- Whether two lists are the same. -/
def sameI (a b : List Int) : Bool := decide (a = b)
theorem sameI_refl (a : List Int) : sameI a a = true := by simp [sameI]
theorem sameI_len {a b : List Int} (h : a.length ≠ b.length) : sameI a b = false := by
  simp only [sameI, decide_eq_false_iff_not]; intro e; exact h (by rw [e])
theorem sameI_at {a b : List Int} {k : Nat} {x y : Int} (hx : a[k]? = some x) (hy : b[k]? = some y) (h : x ≠ y) : sameI a b = false := by
  simp only [sameI, decide_eq_false_iff_not]; intro e; subst e; rw [hx] at hy; exact h (by injection hy)
theorem sameI_yes {a b : List Int} {n : Nat} (ha : a.length = n) (hb : b.length = n) (h : a.take n = b.take n) : sameI a b = true := by
  rw [List.take_of_length_le (by omega), List.take_of_length_le (by omega)] at h
  simp only [sameI, decide_eq_true_eq]; exact h
theorem take_same {a b : List Int} {k : Nat} {x : Int} (h : a.take k = b.take k) (hx : a[k]? = some x) (hy : b[k]? = some x) : a.take (k + 1) = b.take (k + 1) := by
  rw [List.take_add_one, List.take_add_one, h, hx, hy]

/-- What a function leaves that returns a bool and at most draws. -/
def Tells (v : Value) (w : World) (x : Ending) (w' : World) : Prop := x = .returned v ∧ ∃ m, w' = w.drewN m
def EqRel (n : Nat) (za zb : List Int) (w : World) (i : Value) (wr : World) : Prop :=
  ∃ k : Nat, k ≤ n ∧ i = .int .i64 k ∧ za.take k = zb.take k ∧ ∃ m, wr = w.drewN m

set_option maxHeartbeats 400000 in
theorem eqInts (A : Option Addr) (n c B : Nat) (za : List Int) (A' : Option Addr) (n' c' B' : Nat) (zb : List Int) (w : World) (hI : Ints .i64 w B A n za) (hJ : Ints .i64 w B' A' n' zb) (hn : n ≤ 1099511627776) (hn' : n' ≤ 1099511627776) :
    Calls Try.prog 40 #[.slice A n c, .slice A' n' c'] w (Tells (.bool (sameI za zb)) w) := by
  have hl := hide hI.len
  have hl' := hide hJ.len
  have HI := hide hI
  have HJ := hide hJ
  clear hI hJ
  by_cases hne : n = n'
  · subst hne
    go_enter Try.func40, Try.ntmps40
    go_wp2
    go_loopw [5] (fun i wr => EqRel n za zb w i wr) (fun i _ => n - (intOf i).toNat)
    case atStart => exact ⟨0, by omega, rfl, by simp, 0, rfl⟩
    case round =>
      obtain ⟨k, hk, rfl, htake, m, rfl⟩ := hrel
      have HT := hide htake
      clear htake
      by_cases hlt : k < n
      · obtain ⟨b, off, x, rfl, hb, hx, hc⟩ := HI.out.at_ hlt
        obtain ⟨b', off', y, rfl, hb', hy, hc'⟩ := HJ.out.at_ hlt
        have HX := hide hx
        have HY := hide hy
        clear hx hy
        have z1 : (k : Int) < (n : Int) := by omega
        have z0 : (0 : Int) ≤ (k : Int) := by omega
        by_cases hxy : x = y
        · subst hxy
          go_wp2
          go_quiet (fail)
          go_wp2
          go_roundw
          case rel => exact ⟨k + 1, by omega, by go_num, take_same HT HX HY, _, rfl⟩
          case measure => simp [intOf]; omega
        · have HN := hide (sameI_at HX HY hxy)
          have e0 : (x != y) = true := by simpa using hxy
          go_wp2
          go_quiet (fail)
          go_wp2
          go_ret
          exact ⟨ret_bool HN, _, World.drewN_drewN _ _ _⟩
      · have HH := hide (sameI_yes hl hl' (show za.take n = zb.take n by rw [show n = k by omega]; exact HT))
        go_wp2
        go_ret
        exact ⟨ret_bool HH, m, rfl⟩
  · have HN := hide (sameI_len (a := za) (b := zb) (by rw [hl.out, hl'.out]; exact hne))
    have e0 : ((n : Int) != (n' : Int)) = true := by simp; omega
    go_enter Try.func40, Try.ntmps40
    go_wp2
    go_ret
    exact ⟨ret_bool HN, 0, rfl⟩

/-- The marks that the laws write: n numbers from k on. -/
def marks (k n : Nat) : List Int := (List.range n).map (fun i : Nat => (k : Int) + (i : Int))
theorem marks_len (k n : Nat) : (marks k n).length = n := by simp [marks]
theorem marks_at {k n j : Nat} (h : j < n) : (marks k n)[j]? = some ((k : Int) + (j : Int)) := by simp [marks, h]

def MarkRel (base k0 n : Nat) (zs : List Int) (v : Value) (w : World) (kk i : Value) (wr : World) : Prop :=
  ∃ j : Nat, j ≤ n ∧ i = .int .i64 j ∧ kk = .int .i64 ((k0 : Int) + (j : Int)) ∧ Own wr base 2 .i64 v ((marks k0 n).take j ++ zs.drop j) ∧ w.grownBy wr v.ownBlock

def Marked (base k0 n : Nat) (v : Value) (w : World) (x : Ending) (w' : World) : Prop :=
  x = .returned (.int .i64 ((k0 : Int) + (n : Int))) ∧ Own w' base 2 .i64 v (marks k0 n) ∧ w.grownBy w' v.ownBlock

end Go.Proofs.Ytncgeoliboidhaa
