/-
  Messages, and the bound that their narrowest mode gives.
  The length of a list of segments, on both sides.
  strings.Builder and strings.Clone at this program: the library's contracts, laid.
  The joined text of a list of segments, on both sides; whether a list is a segmentation of a message.
  Condition: as each statement says.
-/
import Derived.Test.YthbmfaogjaahoaaSg6
import Derived.Test.YthbmfaogjaahoaaSg8
import Derived.Test.YthbmfaogjaahoaaSg9
import Derived.Test.YthbmfaogjaahoaaSmMath
import Derived.WalkSpells
import Derived.Test.YthbmfaogjaahoaaSq1
import Derived.Test.YthbmfaogjaahoaaSg5
import Derived.Test.YthbmfaogjaahoaaProg
import Derived.Test.YthbmfaogjaahoaaBox
import Derived.Shelf.Strings.BuilderF
import Derived.Shelf.Pu.Clone
namespace Go.Proofs.Ythbmfaogjaahoaa
open Go.RowKit
set_option linter.unusedSimpArgs false
set_option linter.unusedVariables false

theorem implIsMsg (s : ByteArray) (hs : s.size ≤ 1099511627776) (w : World) :
    Calls Try.prog 58 #[.string s] w fun e w' => e = .returned (.bool (decide (s.size ≤ 400))) ∧ w = w' := by
  by_cases h : s.size ≤ 400
  · have HD := hide (show decide ((s.size : Int) ≤ 400) = true from decide_eq_true (by omega))
    go_enter Try.func58, Try.ntmps58
    go_wp2_with fail
    go_ret
    exact ⟨ret_bool (by have := HD.out; simp at this ⊢; omega), rfl⟩
  · have HD := hide (show decide ((s.size : Int) ≤ 400) = false from decide_eq_false (by omega))
    go_enter Try.func58, Try.ntmps58
    go_wp2_with fail
    go_ret
    exact ⟨ret_bool (by have := HD.out; simp at this ⊢; omega), rfl⟩
theorem implIsMsg_yes (s : ByteArray) (hs : s.size ≤ 400) (w : World) :
    Calls Try.prog 58 #[.string s] w fun e w' => e = .returned (.bool true) ∧ w = w' :=
  (implIsMsg s (by omega) w).mono fun _ _ ⟨he, hw⟩ => ⟨by rw [he, decide_eq_true hs], hw⟩
theorem implIsMsg_no (s : ByteArray) (hs : s.size ≤ 1099511627776) (h : ¬ s.size ≤ 400) (w : World) :
    Calls Try.prog 58 #[.string s] w fun e w' => e = .returned (.bool false) ∧ w = w' :=
  (implIsMsg s hs w).mono fun _ _ ⟨he, hw⟩ => ⟨by rw [he, decide_eq_false h], hw⟩

theorem narrow_in (bs : List Int) : 1 ≤ narrow bs ∧ narrow bs ≤ 4 := by unfold narrow; (repeat' split) <;> omega

/-- What LengthBound gives. -/
def lbOf (s : ByteArray) : Int := if s.size ≤ 400 then ((lbd (narrow (bytesI s)) s.size : Nat) : Int) else 0
def lbCode (s : ByteArray) : Int := if s.size ≤ 400 then 0 else 3
theorem nonempty_of {q : ByteArray} (h : q.size ≠ 0) : (!q.toList.isEmpty) = true := by
  have h1 : q.toList = q.data.toList := Go.ByteArray.toList_eq q
  rw [h1]
  cases h2 : q.data.toList with
  | nil =>
    have h3 : q.data.toList.length = q.size := rfl
    rw [h2] at h3; exact absurd h3.symm h
  | cons a l => rfl
theorem implSegLenN (m : Int) (s : ByteArray) (n : Nat) (hm : 1 ≤ m ∧ m ≤ 4) (h : s.size = n) (hn : n ≤ 255) (w : World) :
    Calls Try.prog 101 #[.agg #[.int .i64 m, .string s]] w (Gives (.int .i64 (slen m n : Nat)) w) := by
  subst h; exact implSegLen0 m s hm hn w
def LbdRel (w : World) (m : Int) (n : Nat) (t r : Value) (wr : World) : Prop :=
  ∃ (q : ByteArray) (x : Nat), q.size ≤ n ∧ r = .string q ∧ t = .int .i64 (x : Nat) ∧ x ≤ 6000 ∧ Hid (x + lbd m q.size = lbd m n) ∧ Below w.heap.size w wr

def LbdRel2 (w : World) (m : Int) (n : Nat) (t r : Value) (wr : World) : Prop :=
  ∃ (q : Int) (x : Nat), q ≤ n ∧ -255 < q ∧ r = .int .i64 q ∧ t = .int .i64 (x : Nat) ∧ x ≤ 6000 ∧ Hid (x + lbd m q.toNat = lbd m n) ∧ Below w.heap.size w wr

end Go.Proofs.Ythbmfaogjaahoaa

namespace Go.Proofs.Ythbmfaogjaahoaa
open Go.RowKit
set_option linter.unusedSimpArgs false
set_option linter.unusedVariables false

def slP (M : Nat → Int) (T : Nat → ByteArray) : Nat → Nat
  | 0 => 0
  | k + 1 => slP M T k + slen (M k) (T k).size
def slAll (M : Nat → Int) (T : Nat → ByteArray) (n : Nat) : Prop := ∀ j, j < n → segB (M j) (bytesI (T j)) = true
open Classical in
/-- The code of SegmentsLength, and its number. -/
noncomputable def slCode (M : Nat → Int) (T : Nat → ByteArray) (n : Nat) : Int := if 400 < n then 3 else if slAll M T n then 0 else 1
noncomputable def slOf (M : Nat → Int) (T : Nat → ByteArray) (n : Nat) : Int := if slCode M T n = 0 then ((slP M T n : Nat) : Int) else 0
theorem sl_long {M : Nat → Int} {T : Nat → ByteArray} {n : Nat} (h : 400 < n) : slCode M T n = 3 ∧ slOf M T n = 0 := by
  have : slCode M T n = 3 := by unfold slCode; rw [if_pos h]
  exact ⟨this, by unfold slOf; rw [this]; rfl⟩
theorem sl_bad {M : Nat → Int} {T : Nat → ByteArray} {n k : Nat} (h : ¬ 400 < n) (hk : k < n) (hb : segB (M k) (bytesI (T k)) = false) : slCode M T n = 1 ∧ slOf M T n = 0 := by
  have : slCode M T n = 1 := by
    unfold slCode; rw [if_neg h, if_neg]
    intro ha
    have := ha k hk
    rw [hb] at this; cases this
  exact ⟨this, by unfold slOf; rw [this]; rfl⟩
theorem sl_ok {M : Nat → Int} {T : Nat → ByteArray} {n : Nat} (h : ¬ 400 < n) (ha : slAll M T n) : slCode M T n = 0 ∧ slOf M T n = ((slP M T n : Nat) : Int) := by
  have : slCode M T n = 0 := by unfold slCode; rw [if_neg h, if_pos ha]
  exact ⟨this, by unfold slOf; rw [if_pos this]⟩
theorem sl_cases (M : Nat → Int) (T : Nat → ByteArray) (n : Nat) : slCode M T n = 3 ∨ slCode M T n = 1 ∨ (slCode M T n = 0 ∧ ¬ 400 < n ∧ slAll M T n) := by
  unfold slCode
  by_cases h : 400 < n
  · rw [if_pos h]; exact .inl rfl
  · rw [if_neg h]
    by_cases ha : slAll M T n
    · rw [if_pos ha]; exact .inr (.inr ⟨rfl, h, ha⟩)
    · rw [if_neg ha]; exact .inr (.inl rfl)
theorem slAll_snoc {M : Nat → Int} {T : Nat → ByteArray} {k : Nat} (h : slAll M T k) (hk : segB (M k) (bytesI (T k)) = true) : slAll M T (k + 1) := fun j hj => by
  by_cases e : j < k
  · exact h j e
  · obtain rfl : j = k := by omega
    exact hk
theorem slP_le {M : Nat → Int} {T : Nat → ByteArray} : ∀ k, slAll M T k → slP M T k ≤ 2827 * k := by
  intro k
  induction k with
  | zero => intro _; simp [slP]
  | succ k ih =>
    intro h
    have h1 := ih (fun j hj => h j (by omega))
    have h2 := seg_ok (h k (by omega))
    have h3 := slen_le (m := M k) (n := (T k).size) (by have := h2.2.1; rw [bytesI_len] at this; omega)
    rw [slP]; omega

def SlRel (w : World) (n : Nat) (M : Nat → Int) (T : Nat → ByteArray) (t i : Value) (wr : World) : Prop :=
  ∃ k x : Nat, k ≤ n ∧ i = .int .i64 k ∧ t = .int .i64 x ∧ x ≤ 1200000 ∧ Hid (slAll M T k) ∧ Hid (slP M T k = x) ∧ Below w.heap.size w wr

set_option maxRecDepth 100000 in
set_option maxHeartbeats 1000000 in
theorem implSl (A : Option Addr) (n c B : Nat) (M : Nat → Int) (T : Nat → ByteArray) (w : World) (hI : Segs w B A n M T) (hB : B ≤ w.heap.size) (hn : n ≤ 1099511627776) (hT : ∀ j, j < n → (T j).size ≤ 1099511627776) :
    Calls Try.prog 102 #[.slice A n c] w (GivesII (slOf M T n) (slCode M T n) w) := by
  have HI := hide hI
  have HT := hide hT
  clear hI hT
  by_cases h : 400 < n
  · obtain ⟨h1, h2⟩ := sl_long (M := M) (T := T) h
    have H1 := hide h1
    have H2 := hide h2
    clear h1 h2
    go_enter Try.func102, Try.ntmps102
    go_wp2_with fail
    go_ret2
    exact ⟨ret_ii H2.out H1.out, Below.refl _ _⟩
  · go_enter Try.func102, Try.ntmps102
    go_wp2_with fail
    go_loopw [4, 12] (fun t i wr => SlRel w n M T t i wr) (fun _ i _ => n - (intOf i).toNat)
    case atStart => exact ⟨0, 0, Nat.zero_le _, rfl, rfl, by omega, hide (fun j hj => absurd hj (by omega)), rfl, Below.refl _ _⟩
    case round =>
      obtain ⟨k, x, hk, rfl, rfl, hx, ha, hp, hb⟩ := hrel
      have HB := hide hb
      have HA := ha
      have HP := hp
      clear hb ha hp
      by_cases hlt : k < n
      · obtain ⟨b, off, rfl, hbb, hc⟩ := HI.out (by omega)
        have HCC := hide hc
        have d0 := hc k hlt
        obtain ⟨e0, e1⟩ : wr.cell? ⟨b, off + k * 2, none⟩ = some (.int .i64 (M k)) ∧ wr.cell? ⟨b, off + k * 2 + 1, none⟩ = some (.string (T k)) := ⟨(HB.out.cell (p := ⟨b, off + k * 2, none⟩) (by show b < _; omega)).trans d0.1, (HB.out.cell (p := ⟨b, off + k * 2 + 1, none⟩) (by show b < _; omega)).trans d0.2⟩
        clear hc d0
        have hsz := HT.out k hlt
        obtain ⟨m, hm⟩ : ∃ m, M k = m := ⟨_, rfl⟩
        obtain ⟨s, hse⟩ : ∃ s, T k = s := ⟨_, rfl⟩
        rw [hm] at e0
        rw [hse] at e1 hsz
        have HM := hide hm
        have HSS := hide hse
        have HV := hide (implSegValid m s hsz)
        have HX := hide (SBox.start wr 107 m s)
        clear hm hse
        go_wp2_with fail
        refine (HV.out _).mono ?_
        rintro e w1 ⟨rfl, hb1⟩
        have HX1 := hide (HX.out.next hb1)
        have HB1 := hide (HB.out.trans (HX1.out.2.mono HB.out.size))
        clear hb1 e0 e1 HV HX
        obtain ⟨c0, c1⟩ := HX1.out.cells
        by_cases hv : segB m (bytesI s) = true
        · have HVV := hide hv
          have hso := seg_ok hv
          have hs255 : s.size ≤ 255 := by have := hso.2.1; rw [bytesI_len] at this; omega
          have HL := hide (implSegLen0 m s hso.1 hs255)
          have hle := slen_le (m := m) hs255
          have HN := hide (show slP M T (k + 1) = x + slen m s.size by rw [slP, HP.out, HM.out, HSS.out])
          have HA1 := hide (slAll_snoc HA.out (by rw [HM.out, HSS.out]; exact hv))
          have hxk : x ≤ 2827 * k := by have := slP_le k HA.out; rw [HP.out] at this; exact this
          obtain ⟨y, hy⟩ : ∃ y, slen m s.size = y := ⟨_, rfl⟩
          rw [hy] at HL HN hle
          rw [hv]
          clear hv hso hy
          go_wp2_with fail
          refine (HL.out _).mono ?_
          rintro e w2 ⟨rfl, hb2⟩
          have HB2 := hide (HB1.out.trans (hb2.mono HB1.out.size))
          clear hb2 c0 c1
          go_wp2_with fail
          go_roundw
          case rel => exact ⟨k + 1, x + y, by omega, by go_num, by go_num, by omega, HA1, HN, HB2.out⟩
          case measure => simp [intOf]; omega
        · have hvf : segB m (bytesI s) = false := by simpa using hv
          obtain ⟨h1, h2⟩ := sl_bad (M := M) (T := T) h hlt (by rw [HM.out, HSS.out]; exact hvf)
          have H1 := hide h1
          have H2 := hide h2
          rw [hvf]
          clear h1 h2 hv hvf
          go_wp2_with fail
          go_ret2
          exact ⟨ret_ii H2.out H1.out, HB1.out⟩
      · obtain rfl : k = n := by omega
        obtain ⟨h1, h2⟩ := sl_ok h HA.out
        have H1 := hide h1
        have H2 := hide (h2.trans (by rw [HP.out]))
        clear h1 h2
        go_wp2_with fail
        go_ret2
        exact ⟨ret_ii H2.out H1.out, HB.out⟩

end Go.Proofs.Ythbmfaogjaahoaa

namespace Go.Proofs.Ythbmfaogjaahoaa
open Go Go.RowKit Go.Shelf
set_option linter.unusedSimpArgs false
set_option linter.unusedVariables false

def bldRen : Go.Shelf.Ren := ⟨fun | 166 => 90 | 240 => 110 | 276 => 122 | 169 => 91 | n => n, fun | 0 => 0 | 3 => 3 | 4 => 4 | 5 => 5 | 9 => 9 | 20 => 20 | 37 => 57 | 70 => 118 | 72 => 120 | 75 => 122 | 80 => 125 | 127 => 150 | 164 => 167 | n => n, fun | n => n⟩
theorem writeLaid : Go.Proofs.Lays.n166 Try.prog bldRen := {
  mixed := by kernel_rfl
  f166 := Try.func90.trans (congrArg some (by kernel_rfl))
  f240 := Try.func110.trans (congrArg some (by kernel_rfl))
  f276 := Try.func122.trans (congrArg some (by kernel_rfl))
  t0 := Try.underlying0
  a0 := Try.isAgg0
  z0 := Try.sizeOf0
  v0 := Try.zeroValue0
  t3 := Try.underlying3
  a3 := Try.isAgg3
  z3 := Try.sizeOf3
  v3 := Try.zeroValue3
  t4 := Try.underlying4
  a4 := Try.isAgg4
  z4 := Try.sizeOf4
  v4 := Try.zeroValue4
  t9 := Try.underlying9
  a9 := Try.isAgg9
  z9 := Try.sizeOf9
  v9 := Try.zeroValue9
  t20 := Try.underlying20
  a20 := Try.isAgg20
  z20 := Try.sizeOf20
  v20 := Try.zeroValue20
  t37 := Try.underlying57
  a37 := Try.isAgg57
  z37 := Try.sizeOf57
  v37 := Try.zeroValue57
  t70 := Try.underlying118
  a70 := Try.isAgg118
  z70 := Try.sizeOf118
  v70 := Try.zeroValue118
  t72 := Try.underlying120
  a72 := Try.isAgg120
  z72 := Try.sizeOf120
  v72 := Try.zeroValue120
  t75 := Try.underlying122
  a75 := Try.isAgg122
  z75 := Try.sizeOf122
  v75 := Try.zeroValue122
  t164 := Try.underlying167
  a164 := Try.isAgg167
  z164 := Try.sizeOf167
  v164 := Try.zeroValue167 }
theorem stringLaid : Go.Proofs.Lays.n169 Try.prog bldRen := {
  mixed := by kernel_rfl
  f169 := Try.func91.trans (congrArg some (by kernel_rfl))
  t0 := Try.underlying0
  a0 := Try.isAgg0
  z0 := Try.sizeOf0
  v0 := Try.zeroValue0
  t3 := Try.underlying3
  a3 := Try.isAgg3
  z3 := Try.sizeOf3
  v3 := Try.zeroValue3
  t9 := Try.underlying9
  a9 := Try.isAgg9
  z9 := Try.sizeOf9
  v9 := Try.zeroValue9
  t37 := Try.underlying57
  a37 := Try.isAgg57
  z37 := Try.sizeOf57
  v37 := Try.zeroValue57
  t70 := Try.underlying118
  a70 := Try.isAgg118
  z70 := Try.sizeOf118
  v70 := Try.zeroValue118
  t72 := Try.underlying120
  a72 := Try.isAgg120
  z72 := Try.sizeOf120
  v72 := Try.zeroValue120
  t127 := Try.underlying150
  a127 := Try.isAgg150
  z127 := Try.sizeOf150
  v127 := Try.zeroValue150 }
theorem bldExtra : Go.Proofs.Builder.Extra Try.prog bldRen := {
  sizeBuilder := by kernel_rfl
  liesBuilder := by kernel_rfl
  t5 := Try.underlying5
  a5 := Try.isAgg5
  z5 := Try.sizeOf5
  v5 := Try.zeroValue5
  infoByte := by kernel_rfl
  cellsByte := by kernel_rfl
  sizeByte := by kernel_rfl
  neB5 := by decide }
def clnRen : Go.Shelf.Ren := ⟨fun | 25 => 109 | n => n, fun | 0 => 0 | 3 => 3 | 4 => 4 | 5 => 5 | 9 => 9 | 37 => 57 | 47 => 150 | n => n, fun | n => n⟩
theorem cloneLaid : Go.Proofs.LaysPu.n25 Try.prog clnRen := {
  mixed := by kernel_rfl
  f25 := Try.func109.trans (congrArg some (by kernel_rfl))
  t0 := Try.underlying0
  a0 := Try.isAgg0
  z0 := Try.sizeOf0
  v0 := Try.zeroValue0
  i0 := by kernel_rfl
  t3 := Try.underlying3
  a3 := Try.isAgg3
  z3 := Try.sizeOf3
  v3 := Try.zeroValue3
  i3 := by kernel_rfl
  t4 := Try.underlying4
  a4 := Try.isAgg4
  z4 := Try.sizeOf4
  v4 := Try.zeroValue4
  i4 := by kernel_rfl
  t5 := Try.underlying5
  a5 := Try.isAgg5
  z5 := Try.sizeOf5
  v5 := Try.zeroValue5
  i5 := by kernel_rfl
  t9 := Try.underlying9
  a9 := Try.isAgg9
  z9 := Try.sizeOf9
  v9 := Try.zeroValue9
  i9 := by kernel_rfl
  t37 := Try.underlying57
  a37 := Try.isAgg57
  z37 := Try.sizeOf57
  v37 := Try.zeroValue57
  i37 := by kernel_rfl
  t47 := Try.underlying150
  a47 := Try.isAgg150
  z47 := Try.sizeOf150
  v47 := Try.zeroValue150
  i47 := by kernel_rfl }

/-- A builder of the call's own, in block b, that holds some bytes. -/
def Bld (B b : Nat) (l : List UInt8) (w : World) : Prop := Lib.IsBuilderF 120 5 B b (Lib.byteCells l) w
theorem Bld.below {B b : Nat} {l : List UInt8} {w w' : World} (h : Bld B b l w) (hb : Below w.heap.size w w') : Bld B b l w' := by
  have key : ∀ p, Lib.BuilderAtF 120 5 B b p (Lib.byteCells l) w → Lib.BuilderAtF 120 5 B b p (Lib.byteCells l) w' := by
    rintro p ⟨hB, v, hbk, hown, hne⟩
    refine ⟨hB, v, ?_, World.ownsRowF.kept hown (row := none) ⟨hb.os, hb.tape, hb.output, hb.size, fun i hi _ => hb.block i hi⟩ ?_, hne⟩
    · rw [hb.block b (Array.getElem?_eq_some_iff.1 hbk).1]; exact hbk
    · rcases v.ownBlock with _ | g <;> simp
  exact h.elim (fun x => .inl (key _ x)) (fun x => .inr (key _ x))
theorem Bld.alloc {B b : Nat} {l : List UInt8} {w : World} (h : Bld B b l w) (o : Obj) : Bld B b l (w.alloc o) := h.below ((Below.refl _ _).alloc (Nat.le_refl _) o)
theorem bld_write (B b : Nat) (l : List UInt8) (s : ByteArray) (w : World) (h : Bld B b l w) (hl : l.length ≤ 1000000) (hs : s.size ≤ 1000000) (hBw : B ≤ w.heap.size) :
    Calls Try.prog 90 #[.pointer (some ⟨b, 0, none⟩), .string s] w fun e w' => e = .returned (.tuple #[.int .i64 s.size, .nilIface]) ∧ Bld B b (l ++ s.data.toList) w' ∧ Below B w w' := by
  have c := Go.Proofs.Any.Builder_WriteString_f writeLaid bldExtra B b (Lib.byteCells l) s w h (by rw [Lib.byteCells_length]; omega) hBw
  change Calls Try.prog 90 _ _ _ at c
  refine c.mono ?_
  rintro e w' ⟨rfl, h1, h2⟩
  exact ⟨rfl, .inr (by rw [show Lib.byteCells (l ++ s.data.toList) = Lib.byteCells l ++ Lib.strCells s by simp [Lib.byteCells, Lib.strCells]]; exact h1), h2⟩
theorem bld_string (B b : Nat) (l : List UInt8) (w : World) (h : Bld B b l w) (hBw : B ≤ w.heap.size) :
    Calls Try.prog 91 #[.pointer (some ⟨b, 0, none⟩)] w fun e w' => e = .returned (.string ⟨l.toArray⟩) ∧ Bld B b l w' ∧ Below B w w' := by
  have c := Go.Proofs.Any.Builder_String_any_f stringLaid bldExtra B b l w h hBw
  change Calls Try.prog 91 _ _ _ at c
  exact c
theorem bld_new (w : World) : Bld w.heap.size w.heap.size [] (w.alloc (.cells #[.pointer none, .slice none 0 0] 120)) :=
  .inl ⟨Nat.le_refl _, _, heap_alloc_new w _, World.ownsRowF_of (World.ownsRow_nil _ _ _ _), by simp [Value.ownBlock]⟩
theorem clone_str (s : ByteArray) (w : World) (hs : s.size ≤ 1000000) :
    Calls Try.prog 89 #[.string s] w (Gives (.string s) w) := by
  have c := fun w' => Go.Proofs.AnyPu.stringslite_Clone cloneLaid s w' (by omega)
  have HC := Go.Proofs.Ythbmfaogjaahoaa.hide c
  clear c
  go_enter Try.func89, Try.ntmps89
  go_wp2_with fail
  have c := HC.out w
  change Calls Try.prog 109 _ _ _ at c
  refine c.mono ?_
  rintro e w1 ⟨rfl, hb⟩
  go_wp2_with fail
  go_ret
  exact ⟨rfl, hb⟩
end Go.Proofs.Ythbmfaogjaahoaa

namespace Go.Proofs.Ythbmfaogjaahoaa
open Go.RowKit
set_option linter.unusedSimpArgs false
set_option linter.unusedVariables false

def jn (T : Nat → ByteArray) : Nat → ByteArray
  | 0 => ⟨#[]⟩
  | k + 1 => jn T k ++ T k
theorem jn_size (T : Nat → ByteArray) (k : Nat) : (jn T (k + 1)).size = (jn T k).size + (T k).size := by rw [jn, ByteArray.size_append]
theorem jn_list (T : Nat → ByteArray) (k : Nat) : (jn T (k + 1)).data.toList = (jn T k).data.toList ++ (T k).data.toList := by rw [jn]; simp
theorem jn_le {M : Nat → Int} {T : Nat → ByteArray} : ∀ k, slAll M T k → (jn T k).size ≤ 255 * k := by
  intro k
  induction k with
  | zero => intro _; show (0 : Nat) ≤ _; omega
  | succ k ih =>
    intro h
    have h1 := ih (fun j hj => h j (by omega))
    have h2 := (seg_ok (h k (by omega))).2.1
    rw [bytesI_len] at h2
    rw [jn_size]; omega
/-- The code of JoinSegments, and its text. -/
noncomputable def jsCode (M : Nat → Int) (T : Nat → ByteArray) (n : Nat) : Int := if slCode M T n = 0 then (if 400 < (jn T n).size then 3 else 0) else slCode M T n
noncomputable def jsOf (M : Nat → Int) (T : Nat → ByteArray) (n : Nat) : ByteArray := if jsCode M T n = 0 then jn T n else ⟨#[]⟩
theorem js_bad {M : Nat → Int} {T : Nat → ByteArray} {n : Nat} (h : slCode M T n ≠ 0) : jsCode M T n = slCode M T n ∧ jsOf M T n = ⟨#[]⟩ := by
  have : jsCode M T n = slCode M T n := by unfold jsCode; rw [if_neg h]
  exact ⟨this, by unfold jsOf; rw [this, if_neg h]⟩
theorem js_long {M : Nat → Int} {T : Nat → ByteArray} {n : Nat} (h : slCode M T n = 0) (hl : 400 < (jn T n).size) : jsCode M T n = 3 ∧ jsOf M T n = ⟨#[]⟩ := by
  have : jsCode M T n = 3 := by unfold jsCode; rw [if_pos h, if_pos hl]
  exact ⟨this, by unfold jsOf; rw [this]; rfl⟩
theorem js_ok {M : Nat → Int} {T : Nat → ByteArray} {n : Nat} (h : slCode M T n = 0) (hl : ¬ 400 < (jn T n).size) : jsCode M T n = 0 ∧ jsOf M T n = jn T n := by
  have : jsCode M T n = 0 := by unfold jsCode; rw [if_pos h, if_neg hl]
  exact ⟨this, by unfold jsOf; rw [if_pos this]⟩
/-- What a function leaves that returns a string and a code. -/
def GivSI (s : ByteArray) (r : Int) (w : World) (x : Ending) (w' : World) : Prop := x = .returned (.tuple #[.string s, .int .i64 r]) ∧ Below w.heap.size w w'
theorem ret_si {s t : ByteArray} {a b : Int} (h : t = s) (h' : b = a) : Ending.returned (.tuple #[.string s, .int .i64 a]) = .returned (.tuple #[.string t, .int .i64 b]) := by rw [h, h']
def JsRel (w : World) (n : Nat) (T : Nat → ByteArray) (t i : Value) (wr : World) : Prop :=
  ∃ (k : Nat) (q : ByteArray), k ≤ n ∧ i = .int .i64 k ∧ t = .string q ∧ Hid (jn T k = q) ∧ Below w.heap.size w wr
def JbRel (w : World) (b n : Nat) (T : Nat → ByteArray) (i : Value) (wr : World) : Prop :=
  ∃ k : Nat, k ≤ n ∧ i = .int .i64 k ∧ Bld b b (jn T k).data.toList wr ∧ Below w.heap.size w wr

set_option maxRecDepth 100000 in
set_option maxHeartbeats 1000000 in
theorem implJs (A : Option Addr) (n c B : Nat) (M : Nat → Int) (T : Nat → ByteArray) (w : World) (hI : Segs w B A n M T) (hB : B ≤ w.heap.size) (hn : n ≤ 1099511627776) (hT : ∀ j, j < n → (T j).size ≤ 1099511627776) :
    Calls Try.prog 77 #[.slice A n c] w (GivSI (jsOf M T n) (jsCode M T n) w) := by
  have HI := hide hI
  have HSL := hide (implSl A n c B M T w hI hB hn hT)
  clear hI hT
  rcases sl_cases M T n with h | h | ⟨h, hn4, hall⟩
  case inr.inr =>
    have HALL := hide hall
    have hsz := jn_le n hall
    obtain ⟨q, hq⟩ : ∃ q, slOf M T n = q := ⟨_, rfl⟩
    rw [h, hq] at HSL
    have HH := hide h
    clear h hq hall
    have HLE := hide (fun k (hk : k ≤ n) => jn_le (M := M) (T := T) k (fun j hj => HALL.out j (by omega)))
    go_enter Try.func77, Try.ntmps77
    go_wp2_with fail
    refine HSL.out.mono ?_
    rintro e w1 ⟨rfl, hb1⟩
    have HB1 := hide hb1
    have HBL1 := hide (bld_new w1)
    have HB2 := hide (HB1.out.alloc HB1.out.size (.cells #[.pointer none, .slice none 0 0] 120))
    have hww : w.heap.size ≤ w1.heap.size := hb1.size
    clear hb1 HSL
    go_wp2_with fail
    go_loopw [19] (fun i wr => JbRel w w1.heap.size n T i wr) (fun i _ => n - (intOf i).toNat)
    case atStart => exact ⟨0, Nat.zero_le _, rfl, HBL1.out, HB2.out⟩
    case round =>
      clear HB1 HBL1 HB2
      obtain ⟨k, hk, rfl, hbl, hb⟩ := hrel
      have HBL := hide hbl
      have HB := hide hb
      clear hbl hb
      have HSZ := hide (HLE.out k hk)
      by_cases hlt : k < n
      · obtain ⟨b, off, rfl, hbb, hc⟩ := HI.out (by omega)
        obtain ⟨e0, e1⟩ : wr.cell? ⟨b, off + k * 2, none⟩ = some (.int .i64 (M k)) ∧ wr.cell? ⟨b, off + k * 2 + 1, none⟩ = some (.string (T k)) := ⟨(HB.out.cell (p := ⟨b, off + k * 2, none⟩) (by show b < _; omega)).trans (hc k hlt).1, (HB.out.cell (p := ⟨b, off + k * 2 + 1, none⟩) (by show b < _; omega)).trans (hc k hlt).2⟩
        have hs := (seg_ok (HALL.out k hlt)).2.1
        rw [bytesI_len] at hs
        have HJ1 := hide (jn_list T k)
        obtain ⟨s, hse⟩ : ∃ s, T k = s := ⟨_, rfl⟩
        obtain ⟨m, hm⟩ : ∃ m, M k = m := ⟨_, rfl⟩
        rw [hse] at e1 hs HJ1
        rw [hm] at e0
        have HX := hide (SBox.start wr 107 m s)
        obtain ⟨d0, d1⟩ := HX.out.cells
        have HBL2 := hide (HBL.out.below HX.out.2)
        have HB2 := hide (HB.out.trans (HX.out.2.mono HB.out.size))
        have hwz : w1.heap.size ≤ wr.heap.size + 1 := by
          have h3 := HBL.out
          have : w1.heap.size < wr.heap.size := by
            rcases h3 with h3 | h3 <;> exact Lib.BuilderAtF.lt h3
          omega
        have HWR := hide (bld_write w1.heap.size w1.heap.size (jn T k).data.toList s _ HBL2.out (by have := HSZ.out; show (jn T k).size ≤ _; omega) (by omega) (by rw [alloc_size]; exact hwz))
        clear hse hc hm
        go_wp2_with fail
        refine HWR.out.mono ?_
        rintro e w2 ⟨rfl, hbl2, hb2⟩
        have HBL3 := hide (show Bld w1.heap.size w1.heap.size (jn T (k + 1)).data.toList w2 by rw [HJ1.out]; exact hbl2)
        have HB3 := hide (HB2.out.trans (hb2.mono hww))
        clear hbl2 hb2 HWR e0 e1 d0 d1
        go_wp2_with fail
        go_roundw
        case rel => exact ⟨k + 1, by omega, by go_num, HBL3.out, HB3.out⟩
        case measure => simp [intOf]; omega
      · obtain rfl : k = n := by omega
        have hlt1 : w1.heap.size < wr.heap.size := by
          rcases HBL.out with h3 | h3 <;> exact Lib.BuilderAtF.lt h3
        have HST := hide (bld_string w1.heap.size w1.heap.size (jn T k).data.toList wr HBL.out (by omega))
        have HQ := hide (show (⟨(jn T k).data.toList.toArray⟩ : ByteArray) = jn T k by simp)
        rw [HQ.out] at HST
        obtain ⟨q, hq⟩ : ∃ q, jn T k = q := ⟨_, rfl⟩
        have HJ := hide hq
        rw [hq] at HST HSZ
        have hqs : q.size ≤ 102000 := by have := HSZ.out; omega
        clear hq
        go_wp2_with fail
        refine HST.out.mono ?_
        rintro e w2 ⟨rfl, hbl2, hb2⟩
        have HST2 := hide (bld_string w1.heap.size w1.heap.size q.data.toList w2 hbl2 (by have := hb2.size; omega))
        have HB2 := hide (HB.out.trans (hb2.mono hww))
        have HQ2 := hide (show (⟨q.data.toList.toArray⟩ : ByteArray) = q by simp)
        rw [HQ2.out] at HST2
        clear hbl2 hb2 HST
        by_cases hl : q.size ≤ 400
        · obtain ⟨h1, h2⟩ := js_ok HH.out (show ¬ 400 < (jn T k).size by rw [HJ.out]; omega)
          have H1 := hide h1
          have H2 := hide (h2.trans HJ.out)
          clear h1 h2
          go_wp2_with fail
          refine (implIsMsg_yes q hl _).mono ?_
          rintro e _ ⟨rfl, rfl⟩
          go_wp2_with fail
          refine HST2.out.mono ?_
          rintro e w3 ⟨rfl, hbl3, hb3⟩
          have HB3 := hide (HB2.out.trans (hb3.mono hww))
          clear hbl3 hb3 HST2
          go_wp2_with fail
          go_ret2
          exact ⟨ret_si H2.out H1.out, HB3.out⟩
        · obtain ⟨h1, h2⟩ := js_long HH.out (show 400 < (jn T k).size by rw [HJ.out]; omega)
          have H1 := hide h1
          have H2 := hide h2
          clear h1 h2
          go_wp2_with fail
          refine (implIsMsg_no q (by omega) hl _).mono ?_
          rintro e _ ⟨rfl, rfl⟩
          go_wp2_with fail
          go_ret2
          exact ⟨ret_si H2.out H1.out, HB2.out⟩
  all_goals
    obtain ⟨h1, h2⟩ := js_bad (M := M) (T := T) (n := n) (by rw [h]; decide)
    rw [h] at h1
    obtain ⟨q, hq⟩ : ∃ q, slOf M T n = q := ⟨_, rfl⟩
    rw [h, hq] at HSL
    have H1 := hide h1
    have H2 := hide h2
    clear h h1 h2 hq
    go_enter Try.func77, Try.ntmps77
    go_wp2_with fail
    refine HSL.out.mono ?_
    rintro e w1 ⟨rfl, hb1⟩
    have HB1 := hide hb1
    clear hb1 HSL
    go_wp2_with fail
    go_ret2
    exact ⟨ret_si H2.out H1.out, HB1.out⟩

/-- Whether a list is a segmentation of a message. -/
noncomputable def isgB (M : Nat → Int) (T : Nat → ByteArray) (n : Nat) (s : ByteArray) : Bool := decide (jsCode M T n = 0) && ((jsOf M T n).toList == s.toList)

end Go.Proofs.Ythbmfaogjaahoaa
