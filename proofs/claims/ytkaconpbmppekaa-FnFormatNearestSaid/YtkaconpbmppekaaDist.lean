/-
  The contracts of BitDistance and XorBits, of the program and of the model.
  Condition: the slices are shorter than 2^40.
-/
import Derived.Test.YtkaconpbmppekaaIsBits
import Derived.Test.YtkaconpbmppekaaMarks
import Derived.Deep.RegionHeld3
namespace Go.Proofs.Ytkaconpbmppekaa
open Go.RowKit


set_option maxHeartbeats 400000 in
theorem implPair (A : Option Addr) (n c B : Nat) (za : List Int) (A' : Option Addr) (n' c' B' : Nat) (zb : List Int) (w : World) (hI : Ints .i64 w B A n za) (hJ : Ints .i64 w B' A' n' zb) (hn : n ≤ 1099511627776) (hn' : n' ≤ 1099511627776) (r : Int) (hr : pairCode za zb = r) :
    Calls Try.prog 52 #[.slice A n c, .slice A' n' c'] w fun e w' => e = .returned (.int .i64 r) ∧ w = w' := by
  have hl := hide hI.len
  have hl' := hide hJ.len
  have HI := hide hI
  have HJ := hide hJ
  have HR := hide hr
  clear hI hJ hr
  rcases ha : isBits za with _ | _
  · have HA := hide ha
    clear ha
    go_enter Try.func52, Try.ntmps52
    go_wp2_with fail
    refine (implIsBits_no A n c B za w HI hn HA).mono ?_
    rintro e w ⟨rfl, rfl⟩
    go_wp2_with fail
    go_ret
    exact ⟨ret_int (by rw [← HR.out, pair_bad1 HA]), rfl⟩
  · have HA := hide ha
    clear ha
    rcases hb : isBits zb with _ | _
    · have HB := hide hb
      clear hb
      go_enter Try.func52, Try.ntmps52
      go_wp2_with fail
      refine (implIsBits_yes A n c B za w HI hn HA).mono ?_
      rintro e w ⟨rfl, rfl⟩
      go_wp2_with fail
      refine (implIsBits_no A' n' c' B' zb w HJ hn' HB).mono ?_
      rintro e w ⟨rfl, rfl⟩
      go_wp2_with fail
      go_ret
      exact ⟨ret_int (by rw [← HR.out, pair_bad2 HB]), rfl⟩
    · have HB := hide hb
      clear hb
      by_cases hne : n = n'
      · have HE := hide hne
        have e0 : ((n : Int) != (n' : Int)) = false := by simp; omega
        clear hne
        go_enter Try.func52, Try.ntmps52
        go_wp2_with fail
        refine (implIsBits_yes A n c B za w HI hn HA).mono ?_
        rintro e w ⟨rfl, rfl⟩
        go_wp2_with fail
        refine (implIsBits_yes A' n' c' B' zb w HJ hn' HB).mono ?_
        rintro e w ⟨rfl, rfl⟩
        go_wp2_with fail
        go_ret
        exact ⟨ret_int (by rw [← HR.out, pair_ok HA HB (by rw [hl.out, hl'.out]; exact HE)]), rfl⟩
      · have e0 : ((n : Int) != (n' : Int)) = true := by simp; omega
        go_enter Try.func52, Try.ntmps52
        go_wp2_with fail
        refine (implIsBits_yes A n c B za w HI hn HA).mono ?_
        rintro e w ⟨rfl, rfl⟩
        go_wp2_with fail
        refine (implIsBits_yes A' n' c' B' zb w HJ hn' HB).mono ?_
        rintro e w ⟨rfl, rfl⟩
        go_wp2_with fail
        go_ret
        exact ⟨ret_int (by rw [← HR.out, pair_len HA HB (by rw [hl.out, hl'.out]; exact hne)]), rfl⟩

/-- What a function leaves that returns a number and a code. -/
def Gives2 (v r : Int) (w : World) (x : Ending) (w' : World) : Prop := x = .returned (.tuple #[.int .i64 v, .int .i64 r]) ∧ Below w.heap.size w w'

def distOf (za zb : List Int) : Int := if pairCode za zb = 0 then (differ za zb : Int) else 0

set_option maxHeartbeats 400000 in
theorem specDiffer (A : Option Addr) (n c B : Nat) (za : List Int) (A' : Option Addr) (c' B' : Nat) (zb : List Int) (w : World) (hI : Ints .i64 w B A n za) (hJ : Ints .i64 w B' A' n zb) (hn : n ≤ 1099511627776) :
    Calls Try.prog 72 #[.slice A n c, .slice A' n c'] w (Tells (.int .i64 (differ za zb : Int)) w) := by
  have hl := hide hI.len
  have hl' := hide hJ.len
  have HI := hide hI
  have HJ := hide hJ
  clear hI hJ
  go_enter Try.func72, Try.ntmps72
  go_wp2
  go_loopw [5, 6] (fun d i wr => ∃ k : Nat, k ≤ n ∧ i = .int .i64 k ∧ (∃ t : Nat, t ≤ k ∧ d = .int .i64 t ∧ Hid (differ (za.take k) (zb.take k) = t)) ∧ ∃ m, wr = w.drewN m) (fun _ i _ => n - (intOf i).toNat)
  case atStart => exact ⟨0, by omega, rfl, ⟨0, by omega, rfl, by simp [Hid, differ]⟩, 0, rfl⟩
  case round =>
    obtain ⟨k, hk, rfl, ⟨t, ht, rfl, HT⟩, m, rfl⟩ := hrel
    by_cases hlt : k < n
    · obtain ⟨b, off, x, rfl, hb, hx, hc⟩ := HI.out.at_ hlt
      obtain ⟨b', off', y, rfl, hb', hy, hc'⟩ := HJ.out.at_ hlt
      have HS := hide (differ_snoc hx hy)
      clear hx hy
      have z1 : (k : Int) < (n : Int) := by omega
      have z0 : (0 : Int) ≤ (k : Int) := by omega
      by_cases hxy : x = y
      · subst hxy
        go_wp2
        go_quiet (fail)
        go_wp2
        go_roundw
        case rel => exact ⟨k + 1, by omega, by go_num, ⟨t, by omega, rfl, by rw [Hid, HS.out, HT.out]; simp⟩, _, rfl⟩
        case measure => simp [intOf]; omega
      · have HN := hide hxy
        have e0 : (x != y) = true := by simpa using hxy
        go_wp2
        go_quiet (fail)
        go_wp2
        go_roundw
        case rel => exact ⟨k + 1, by omega, by go_num, ⟨t + 1, by omega, by go_num, by rw [Hid, HS.out, HT.out, if_neg HN.out]⟩, _, rfl⟩
        case measure => simp [intOf]; omega
    · have HF := hide (show differ za zb = t by
        have := HT.out
        rw [List.take_of_length_le (by rw [hl.out]; omega), List.take_of_length_le (by rw [hl'.out]; omega)] at this
        exact this)
      go_wp2
      go_ret
      exact ⟨ret_int (by rw [HF.out]), m, rfl⟩

set_option maxHeartbeats 400000 in
theorem implDist (A : Option Addr) (n c B : Nat) (za : List Int) (A' : Option Addr) (n' c' B' : Nat) (zb : List Int) (w : World) (hI : Ints .i64 w B A n za) (hJ : Ints .i64 w B' A' n' zb) (hn : n ≤ 1099511627776) (hn' : n' ≤ 1099511627776) :
    Calls Try.prog 24 #[.slice A n c, .slice A' n' c'] w (Gives2 (distOf za zb) (pairCode za zb) w) := by
  have hl := hide hI.len
  have hl' := hide hJ.len
  have HI := hide hI
  have HJ := hide hJ
  clear hI hJ
  rcases pair_cases za zb with h | h | ⟨h, ha, hb, hlen⟩
  · have HR := hide h
    have HD := hide (show distOf za zb = 0 by rw [distOf, if_neg (by rw [h]; decide)])
    clear h
    go_enter Try.func24, Try.ntmps24
    go_wp2_with fail
    refine (implPair A n c B za A' n' c' B' zb w HI HJ hn hn' 1 HR).mono ?_
    rintro e w ⟨rfl, rfl⟩
    go_wp2_with fail
    go_ret2
    exact ⟨ret_ii HD.out HR.out, Below.refl _ _⟩
  · have HR := hide h
    have HD := hide (show distOf za zb = 0 by rw [distOf, if_neg (by rw [h]; decide)])
    clear h
    go_enter Try.func24, Try.ntmps24
    go_wp2_with fail
    refine (implPair A n c B za A' n' c' B' zb w HI HJ hn hn' 5 HR).mono ?_
    rintro e w ⟨rfl, rfl⟩
    go_wp2_with fail
    go_ret2
    exact ⟨ret_ii HD.out HR.out, Below.refl _ _⟩
  · have HR := hide h
    have HD := hide (show distOf za zb = differ za zb by rw [distOf, if_pos h])
    obtain rfl : n = n' := by rw [← hl.out, ← hl'.out]; exact hlen
    have HA := hide ha
    have HB := hide hb
    clear h ha hb hlen
    go_enter Try.func24, Try.ntmps24
    go_wp2_with fail
    refine (implPair A n c B za A' n c' B' zb w HI HJ hn hn' 0 HR).mono ?_
    rintro e w ⟨rfl, rfl⟩
    go_wp2_with fail
    go_loop [7, 18] (fun d i => ∃ k : Nat, k ≤ n ∧ i = .int .i64 k ∧ (∃ t : Nat, t ≤ k ∧ d = .int .i64 t ∧ Hid (differ (za.take k) (zb.take k) = t))) (fun _ i => n - (intOf i).toNat)
    case atStart => exact ⟨0, by omega, rfl, ⟨0, by omega, rfl, by simp [Hid, differ]⟩⟩
    case round =>
      obtain ⟨k, hk, rfl, ⟨t, ht, rfl, HT⟩⟩ := hrel
      by_cases hlt : k < n
      · obtain ⟨b, off, x, rfl, hb, hx, hc⟩ := HI.out.at_ hlt
        obtain ⟨b', off', y, rfl, hb', hy, hc'⟩ := HJ.out.at_ hlt
        have HS := hide (differ_snoc hx hy)
        have HX := hide (isBits_bit HA hx)
        have HY := hide (isBits_bit HB hy)
        clear hx hy
        have x00 := xor00
        have x01 := xor01
        have x10 := xor10
        have x11 := xor11
        rcases HX.out with rfl | rfl <;> rcases HY.out with rfl | rfl
        all_goals clear HX HY
        · go_wp2
          go_round
          case rel => exact ⟨k + 1, by omega, by go_num, ⟨t, by omega, by go_num, by rw [Hid, HS.out, HT.out]; simp⟩⟩
          case measure => simp [intOf]; omega
        · go_wp2
          go_round
          case rel => exact ⟨k + 1, by omega, by go_num, ⟨t + 1, by omega, by go_num, by rw [Hid, HS.out, HT.out]; simp⟩⟩
          case measure => simp [intOf]; omega
        · go_wp2
          go_round
          case rel => exact ⟨k + 1, by omega, by go_num, ⟨t + 1, by omega, by go_num, by rw [Hid, HS.out, HT.out]; simp⟩⟩
          case measure => simp [intOf]; omega
        · go_wp2
          go_round
          case rel => exact ⟨k + 1, by omega, by go_num, ⟨t, by omega, by go_num, by rw [Hid, HS.out, HT.out]; simp⟩⟩
          case measure => simp [intOf]; omega
      · have HF := hide (show differ za zb = t by
          have := HT.out
          rw [List.take_of_length_le (by rw [hl.out]; omega), List.take_of_length_le (by rw [hl'.out]; omega)] at this
          exact this)
        go_wp2
        go_ret2
        exact ⟨ret_ii (by rw [HD.out, HF.out]) HR.out, Below.refl _ _⟩

/-- What a function leaves that returns a new slice of integers and a code. -/
def NewInts2 (e : TypeId) (k : IntKind) (zs : List Int) (r : Int) (w : World) (x : Ending) (w' : World) : Prop :=
  ∃ A c, x = .returned (.tuple #[.slice A zs.length c, .int .i64 r]) ∧ zs.length ≤ c ∧ Own w' w.heap.size e k (.slice A zs.length c) zs ∧ Below w.heap.size w w'

def xorOf (za zb : List Int) : List Int := if pairCode za zb = 0 then xorL za zb else []

def XorRel (n : Nat) (zs : List Int) (w : World) (i : Value) (wr : World) : Prop :=
  ∃ k : Nat, k ≤ n ∧ i = .int .i64 k ∧ Own wr w.heap.size 2 .i64 (.slice (some ⟨w.heap.size, 0, none⟩) n n) (zs.take k ++ List.replicate (n - k) 0) ∧ Below w.heap.size w wr

theorem nilOwn (w : World) (base : Nat) (e : TypeId) (k : IntKind) : Own w base e k (.slice none 0 0) [] := World.ownsRow_nil w base e 1

set_option maxHeartbeats 1000000 in
theorem implXor (A : Option Addr) (n c B : Nat) (za : List Int) (A' : Option Addr) (n' c' B' : Nat) (zb : List Int) (w : World) (hI : Ints .i64 w B A n za) (hJ : Ints .i64 w B' A' n' zb) (hB : B ≤ w.heap.size) (hB' : B' ≤ w.heap.size) (hn : n ≤ 1099511627776) (hn' : n' ≤ 1099511627776) :
    Calls Try.prog 23 #[.slice A n c, .slice A' n' c'] w (NewInts2 2 .i64 (xorOf za zb) (pairCode za zb) w) := by
  have hl := hide hI.len
  have hl' := hide hJ.len
  have HI := hide hI
  have HJ := hide hJ
  clear hI hJ
  rcases pair_cases za zb with h | h | ⟨h, ha, hb, hlen⟩
  · have HR := hide h
    have HD := hide (show xorOf za zb = [] by rw [xorOf, if_neg (by rw [h]; decide)])
    clear h
    go_enter Try.func23, Try.ntmps23
    go_wp2_with fail
    refine (implPair A n c B za A' n' c' B' zb w HI HJ hn hn' 1 HR).mono ?_
    rintro e w ⟨rfl, rfl⟩
    go_wp2_with fail
    go_ret2
    rw [HD.out]
    exact ⟨none, 0, ret_vi HR.out, Nat.le_refl _, nilOwn _ _ _ _, Below.refl _ _⟩
  · have HR := hide h
    have HD := hide (show xorOf za zb = [] by rw [xorOf, if_neg (by rw [h]; decide)])
    clear h
    go_enter Try.func23, Try.ntmps23
    go_wp2_with fail
    refine (implPair A n c B za A' n' c' B' zb w HI HJ hn hn' 5 HR).mono ?_
    rintro e w ⟨rfl, rfl⟩
    go_wp2_with fail
    go_ret2
    rw [HD.out]
    exact ⟨none, 0, ret_vi HR.out, Nat.le_refl _, nilOwn _ _ _ _, Below.refl _ _⟩
  · have HR := hide h
    have HD := hide (show xorOf za zb = xorL za zb by rw [xorOf, if_pos h])
    obtain rfl : n = n' := by rw [← hl.out, ← hl'.out]; exact hlen
    have HL := hide (show (xorL za zb).length = n by rw [xorL_len hlen]; exact hl)
    have HA := hide ha
    have HB := hide hb
    clear h ha hb hlen
    obtain ⟨i0, hi0, hz0, hz1, hz2⟩ := info_parts info64
    have Hi0 := hide hi0
    have Hz0 := hide hz0
    have Hz1 := hide hz1
    have Hz2 := hide hz2
    clear hi0 hz0 hz1 hz2
    go_enter Try.func23, Try.ntmps23
    go_wp2_with fail
    refine (implPair A n c B za A' n c' B' zb w HI HJ hn hn' 0 HR).mono ?_
    rintro e w ⟨rfl, rfl⟩
    go_wp2_with (at_make; refine wpList_make_full _ rfl _ _ _ rfl w.heap.size 2 i0 (.int .i64 0) 1 Try.underlying28 Hi0 Hz0 Hz1 .i64 .i64 n n n rfl rfl rfl rfl (by rw [Hz2]; omega) (by unfold maxLen; omega) (Nat.le_refl _) ?_; intro w1 hown0 hgr0)
    have hOwn := hide (made_own hown0)
    have hBl := hide ((Below.refl w.heap.size w).grown hgr0 (Nat.le_refl _) (by simp))
    clear hown0 hgr0
    go_wp2
    go_loopw [21] (fun i wr => XorRel n (xorL za zb) w i wr) (fun i _ => n - (intOf i).toNat)
    case atStart => exact ⟨0, by omega, rfl, by simpa using hOwn.out, hBl⟩
    case round =>
      clear hOwn hBl w1
      obtain ⟨k, hk, rfl, hOwn, hBl⟩ := hrel
      have HO := hide hOwn
      have HBl := hide hBl
      clear hOwn hBl
      by_cases hlt : k < n
      · obtain ⟨b, off, x, rfl, hb, hx, hc⟩ := (HI.out.below (HBl.out.mono hB)).at_ hlt
        obtain ⟨b', off', y, rfl, hb', hy, hc'⟩ := (HJ.out.below (HBl.out.mono hB')).at_ hlt
        have HS := hide (xorL_at hx hy)
        have HX := hide (isBits_bit HA hx)
        have HY := hide (isBits_bit HB hy)
        clear hx hy
        have hc2 : wr.cell? ⟨w.heap.size, k, none⟩ = some (.int .i64 0) := HO.out.cellAt (by
          rw [List.getElem?_append_right (by rw [List.length_take]; omega), List.length_take, show k - min k (xorL za zb).length = 0 by rw [HL.out]; omega, List.getElem?_replicate, if_pos (by omega)])
        have hf2 : wr.frozen? ⟨w.heap.size, k, none⟩ = false := HO.out.frozenAt k
        have hxy : bits .xor .i64 x y = xorI x y := by
          rcases HX.out with rfl | rfl <;> rcases HY.out with rfl | rfl <;> decide
        generalize xorI x y = z at hxy HS
        go_wp2
        go_roundw
        case rel =>
          refine ⟨k + 1, by omega, by go_num, ?_, HBl.out.setCell (Nat.le_refl _) _⟩
          have := (HO.out.stored k z).1
          rw [show n - k = (n - (k + 1)) + 1 by omega, List.replicate_succ, set_snoc HS] at this
          exact this
        case measure => simp [intOf]; omega
      · have HE := hide (show n = k by omega)
        go_wp2
        go_ret2
        have hz : (xorL za zb).take k ++ List.replicate (n - k) 0 = xorL za zb := by
          rw [List.take_of_length_le (by rw [HL.out]; omega), show n - k = 0 by omega]; simp
        rw [hz] at HO
        rw [HD.out]
        refine ⟨some ⟨w.heap.size, 0, none⟩, n, ?_, by rw [HL.out]; exact Nat.le_refl _, by rw [HL.out]; exact HO, HBl⟩
        rw [HL.out]
        exact ret_vi HR.out

def XRel (n : Nat) (zs : List Int) (w : World) (v i : Value) (wr : World) : Prop :=
  ∃ k : Nat, k ≤ n ∧ i = .int .i64 k ∧ Own wr w.heap.size 2 .i64 v (zs.take k) ∧ Below w.heap.size w wr

end Go.Proofs.Ytkaconpbmppekaa
