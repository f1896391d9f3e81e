/-
  The contracts of the laws' own dice: what is rolled lies in its range, and only the dice's own block changes.
  What DecodeStream gives for a stream that is changed within the bound.
  Damage of a stream within the bound: what DecodeStream gives.
  Condition: as each statement says.
-/
import Derived.Test.YtlphodhecaagbaaGreatJW
import Derived.Test.YtlphodhecaagbaaGreatJF
import Derived.Test.YtlphodhecaagbaaGreatJX
import Derived.Test.YtlphodhecaagbaaGreatJU
import Derived.Test.YtlphodhecaagbaaGreatKA
namespace Go.Proofs.YtlphodhecaagbaaGreat
open Go.RowKit
set_option linter.unusedVariables false

theorem and24 (a : Int) : 0 ≤ bits .and .u64 a 16777215 ∧ bits .and .u64 a 16777215 ≤ 16777215 := by
  have h : (BitVec.ofInt 64 a &&& BitVec.ofInt 64 ((16777215 : Nat) : Int)).toNat ≤ 16777215 := by
    rw [BitVec.toNat_and, i64Nat 16777215 (by omega)]; exact Nat.and_le_right
  have e : bits .and .u64 a 16777215 = IntKind.u64.wrap (((BitVec.ofInt 64 a &&& BitVec.ofInt 64 ((16777215 : Nat) : Int)).toNat : Nat) : Int) := rfl
  rw [e]
  generalize (BitVec.ofInt 64 a &&& BitVec.ofInt 64 ((16777215 : Nat) : Int)).toNat = m at h
  have : IntKind.u64.wrap (m : Int) = m := by
    rw [IntWalk.u64_in _ ⟨by omega, by omega⟩]
  rw [this]; omega

/-- Block g is a law's dice over a code that lies below block Bc. -/
def Dice (w : World) (g Bc : Nat) (A : Option Addr) (n c : Nat) (code : List Int) : Prop :=
  Ints .u8 w Bc A n code ∧ Bc ≤ g ∧ n ≤ 4096 ∧ (∀ b ∈ code, 0 ≤ b ∧ b ≤ 255) ∧
  ∃ (p : Nat) (h : Int), p ≤ n ∧ w.heap[g]? = some (.cells #[.slice A n c, .int .i64 p, .int .u64 h] 69 (0, 0))

def RollRel (A : Option Addr) (n c : Nat) (w : World) (i : Value) (wr : World) : Prop :=
  ∃ (k : Nat) (h : Int), k ≤ n ∧ i = .int .i64 k ∧ wr.heap[w.heap.size]? = some (.cells #[.slice A n c, .int .i64 0, .int .u64 h] 69 (0, 0)) ∧ Below w.heap.size w wr

/-- What the making of dice leaves. -/
def Rolled (A : Option Addr) (n c : Nat) (code : List Int) (w : World) (x : Ending) (w' : World) : Prop :=
  x = .returned (.pointer (some ⟨w.heap.size, 0, none⟩)) ∧ Dice w' w.heap.size w.heap.size A n c code ∧ Below w.heap.size w w'

set_option maxHeartbeats 1000000 in
theorem roll_any (A : Option Addr) (n c : Nat) (code : List Int) (s : Int) (w : World) (hI : Ints .u8 w w.heap.size A n code) (hn : n ≤ 4096) (hby : ∀ b ∈ code, 0 ≤ b ∧ b ≤ 255) :
    Calls Tryz.prog 12 #[.slice A n c, .int .u64 s] w (Rolled A n c code w) := by
  have HI := hide hI
  have HBY := hide hby
  clear hI hby
  go_enter Tryz.func12, Tryz.ntmps12
  go_wp2
  go_loopw [6] (fun i wr => RollRel A n c w i wr) (fun i _ => n - (intOf i).toNat)
  case atStart => exact ⟨0, _, by omega, rfl, heap_alloc_new w _, (Below.refl _ _).alloc (Nat.le_refl _) _⟩
  case round =>
    obtain ⟨k, h, hk, rfl, hh, hBl⟩ := hrel
    have HH := hide hh
    have HBl := hide hBl
    clear hh hBl
    by_cases hlt : k < n
    · obtain ⟨b, off, x, rfl, hb, hx, hc⟩ := (HI.out.below HBl).at_ hlt
      clear hx
      have c2 : wr.cell? ⟨w.heap.size, 2, none⟩ = some (.int .u64 h) := cell_of_row wr w.heap.size 2 _ _ _ HH
      have f2 : wr.frozen? ⟨w.heap.size, 2, none⟩ = false := frozen_of_row wr w.heap.size 2 _ _ HH
      have z1 : (k : Int) < (n : Int) := by omega
      have z0 : (0 : Int) ≤ (k : Int) := by omega
      go_wp2
      go_region
      go_wp2
      go_roundw
      case rel => exact ⟨k + 1, _, by omega, by go_num, heap_setCell_same wr w.heap.size 2 _ _ _ HH, (HBl.out.setCell (Nat.le_refl _) _).drew⟩
      case measure => simp [intOf]; omega
    · have hd : decide ((k : Int) < (n : Int)) = false := by simp; omega
      go_wp2
      go_ret
      exact ⟨rfl, ⟨HI.out.below HBl, Nat.le_refl _, hn, HBY, 0, h, by omega, HH⟩, HBl⟩

/-- What a throw of the dice leaves. -/
def Thrown (g Bc : Nat) (A : Option Addr) (n c : Nat) (code : List Int) (m : Int) (w : World) (x : Ending) (w' : World) : Prop :=
  ∃ y : Nat, x = .returned (.int .i64 (y : Nat)) ∧ (y : Int) < m ∧ Dice w' g Bc A n c code ∧ w.grownBy w' (some g)

theorem thrown_mk {g Bc : Nat} {A : Option Addr} {n c : Nat} {code : List Int} {m y h h' : Int} {p p' : Nat} {w w' : World}
    (hI : Ints .u8 w Bc A n code) (hBc : Bc ≤ g) (hn : n ≤ 4096) (hb : ∀ b ∈ code, 0 ≤ b ∧ b ≤ 255) (hp : p' ≤ n)
    (hh : w'.heap[g]? = some (.cells #[.slice A n c, .int .i64 p', .int .u64 h'] 69 (0, 0))) (hg : w.grownBy w' (some g)) (hw : w.heap[g]? = some (.cells #[.slice A n c, .int .i64 p, .int .u64 h] 69 (0, 0))) (hy0 : 0 ≤ y) (hy : y < m) :
    Thrown g Bc A n c code m w (.returned (.int .i64 y)) w' := by
  have hlt : g < w.heap.size := (Array.getElem?_eq_some_iff.1 hw).1
  obtain ⟨y, rfl⟩ : ∃ z : Nat, y = z := ⟨y.toNat, by omega⟩
  refine ⟨y, rfl, hy, ⟨hI.keep fun b o hb => World.cell?_of_block (hg.block b (by omega) (fun e => by injection e; omega)), hBc, hn, hb, p', h', hp, hh⟩, hg⟩

set_option maxHeartbeats 1000000 in
theorem below_any (g Bc : Nat) (A : Option Addr) (n c : Nat) (code : List Int) (m : Int) (w : World) (hS : Dice w g Bc A n c code) (hm : 1 ≤ m) (hm2 : m ≤ 4611686018427387904) :
    Calls Tryz.prog 13 #[.pointer (some ⟨g, 0, none⟩), .int .i64 m] w (Thrown g Bc A n c code m w) := by
  obtain ⟨hI, hBc, hn, hby, p, sd, hp, hh⟩ := hS
  have HI := hide hI
  have hl := hide hI.len
  have HBY := hide hby
  have HH := hide hh
  have c0 : w.cell? ⟨g, 0, none⟩ = some (.slice A n c) := cell_of_row w g 0 _ _ _ hh
  have c1 : w.cell? ⟨g, 1, none⟩ = some (.int .i64 p) := cell_of_row w g 1 _ _ _ hh
  have c2 : w.cell? ⟨g, 2, none⟩ = some (.int .u64 sd) := cell_of_row w g 2 _ _ _ hh
  have f1 : w.frozen? ⟨g, 1, none⟩ = false := frozen_of_row w g 1 _ _ hh
  have f2 : w.frozen? ⟨g, 2, none⟩ = false := frozen_of_row w g 2 _ _ hh
  clear hI hby hh
  by_cases hpn : p < n
  · obtain ⟨b, off, x, rfl, hb, hx, hc⟩ := HI.out.at_ hpn
    have hxb := HBY.out x (List.mem_of_getElem? hx)
    obtain ⟨hx0, hx1⟩ := hxb
    clear hx
    have z1 : (p : Int) < (n : Int) := by omega
    have z0 : (0 : Int) ≤ (p : Int) := by omega
    have hbg : b ≠ g := by omega
    go_enter Tryz.func13, Tryz.ntmps13
    go_wp2
    obtain ⟨hv0, hv1⟩ := and24 (IntKind.u64.wrap (IntKind.u64.wrap (sd * 6364136223846793005) + 1442695040888963407) / 8589934592)
    generalize bits .and .u64 (IntKind.u64.wrap (IntKind.u64.wrap (sd * 6364136223846793005) + 1442695040888963407) / 8589934592) 16777215 = v at hv0 hv1 ⊢
    generalize IntKind.u64.wrap (IntKind.u64.wrap (sd * 6364136223846793005) + 1442695040888963407) = h2
    rw [show wrap64 v = v from IntWalk.wrap64_in _ ⟨by omega, by omega⟩]
    go_quiet (fail)
    go_wp2
    go_quiet (fail)
    go_wp2
    go_ret
    exact thrown_mk (p' := p + 1) (h' := h2) HI hBc hn HBY (by omega) (heap_setCell_same _ g 1 _ _ _ (heap_setCell_same w g 2 _ _ _ HH)) (grown_set (grown_drewN (grown_set (World.grownBy.refl _ _) 2 _) _) 1 _) HH (Int.emod_nonneg _ (by omega)) (Int.emod_lt_of_pos _ (by omega))
  · have hd : decide ((p : Int) < (n : Int)) = false := by simp; omega
    go_enter Tryz.func13, Tryz.ntmps13
    go_wp2
    obtain ⟨hv0, hv1⟩ := and24 (IntKind.u64.wrap (IntKind.u64.wrap (sd * 6364136223846793005) + 1442695040888963407) / 8589934592)
    generalize bits .and .u64 (IntKind.u64.wrap (IntKind.u64.wrap (sd * 6364136223846793005) + 1442695040888963407) / 8589934592) 16777215 = v at hv0 hv1 ⊢
    generalize IntKind.u64.wrap (IntKind.u64.wrap (sd * 6364136223846793005) + 1442695040888963407) = h2
    rw [show wrap64 v = v from IntWalk.wrap64_in _ ⟨by omega, by omega⟩]
    go_quiet (fail)
    go_wp2
    go_ret
    exact thrown_mk (p' := p) (h' := h2) HI hBc hn HBY hp (heap_setCell_same w g 2 _ _ _ HH) (grown_drewN (grown_set (World.grownBy.refl _ _) 2 _) _) HH (Int.emod_nonneg _ (by omega)) (Int.emod_lt_of_pos _ (by omega))
theorem Dice.below {w w' : World} {g Bc : Nat} {A : Option Addr} {n c : Nat} {code : List Int} {B : Nat} (h : Dice w g Bc A n c code) (hb : Below B w w') (hB : g < B) : Dice w' g Bc A n c code := by
  obtain ⟨h1, h2, h3, h4, p, sd, h5, h8⟩ := h
  exact ⟨h1.below (hb.mono (by omega)), h2, h3, h4, p, sd, h5, by rw [hb.block g hB]; exact h8⟩
theorem Dice.lt {w : World} {g Bc : Nat} {A : Option Addr} {n c : Nat} {code : List Int} (h : Dice w g Bc A n c code) : g < w.heap.size := by
  obtain ⟨h1, h2, h3, h4, p, sd, h5, h8⟩ := h
  exact (Array.getElem?_eq_some_iff.1 h8).1
theorem errE {R : Fld} {p k g : Int} (hf : fieldB p k g = true) (h : FldIs R p k g) (X Y : El R) : errC p k g [(X.val : Int), (Y.val : Int)] = 0 := by
  have h1 : elB R.q (X.val : Int) = true := by have := X.lt; rw [elB, decide_eq_true_eq]; omega
  have h2 : elB R.q (Y.val : Int) = true := by have := Y.lt; rw [elB, decide_eq_true_eq]; omega
  rw [errC_is hf h.kind]; simp [h1, h2]
theorem fMulE {R : Fld} {p k g : Int} (hf : fieldB p k g = true) (h : FldIs R p k g) (X Y : El R) : fMul p k g X.val Y.val = ((X * Y).val : Nat) ∧ errC p k g [(X.val : Int), (Y.val : Int)] = 0 :=
  ⟨by rw [fMul_ok (errE hf h X Y) h.kind]; rfl, errE hf h X Y⟩
theorem fAddE {R : Fld} {p k g : Int} (hf : fieldB p k g = true) (h : FldIs R p k g) (X Y : El R) : fAdd p k g X.val Y.val = ((X + Y).val : Nat) ∧ errC p k g [(X.val : Int), (Y.val : Int)] = 0 :=
  ⟨by rw [fAdd_ok (errE hf h X Y) h.kind, val_add, h.add], errE hf h X Y⟩
theorem field_ok {p k g a b : Int} (h : errC p k g [a, b] = 0) : fieldB p k g = true := by
  rcases hf : fieldB p k g with _ | _
  · rw [errC_no hf] at h; cases h
  · rfl

end Go.Proofs.YtlphodhecaagbaaGreat

namespace Go.Proofs.YtlphodhecaagbaaGreat
open Go.RowKit
set_option linter.unusedSimpArgs false
set_option linter.unusedVariables false
section
variable {R : Fld} {D C K : Nat}
theorem datX_cat (X : Nat → List (El R)) : ∀ n, datX D C X n = catL D C X n
  | 0 => rfl
  | n + 1 => by show datX D C X n ++ _ = catL D C X n ++ _; rw [datX_cat X n]
theorem chgX_chg (ws : List (El R)) (X : Nat → List (El R)) : ∀ n, chgX D C K ws X n = chgL D C K ws X n
  | 0 => rfl
  | n + 1 => by show chgX D C K ws X n + _ = chgL D C K ws X n + _; rw [chgX_chg ws X n]
theorem datX_enc {γ : El R} {ds : List (El R)} (hC : 0 < C) (hd : ds.length = D) : datX D C (encB γ D C K ds) C = ds := by
  rw [datX_cat]; exact cat_all hC hd fun k hk => encB_take hk hd
theorem era_none (D C K k : Nat) : era D C K [] k = [] := by unfold era; simp
theorem burst_len (hC : 0 < C) : burst D C K ≤ D + C * K := by
  have h1 : K / 2 ≤ K := Nat.div_le_self _ _
  have h2 : K / 2 * C ≤ K * C := Nat.mul_le_mul_right _ h1
  have h3 : (K / 2 - 1) * C ≤ K * C := Nat.mul_le_mul_right _ (by omega)
  have h4 := Nat.mod_le D C
  have h5 := Nat.mul_comm K C
  unfold burst
  split
  · omega
  · split <;> omega
end
theorem stream_ok {R : Fld} {γ : El R} {p k g : Int} {D K C : Nat} (h : LayIs R γ p k g D K C) (S : List (El R)) (hS : S.length = D + C * K) : lErr p k g D K C (stN D K C) (iv S) = 0 := by
  have hwb := word_shut S
  rw [hS] at hwb
  rw [stN_is h, lErr_is (layB_is h) h.fld.kind, if_pos hwb]
/-- Within a burst of the bound's length. -/
theorem dec_burst {R : Fld} {γ : El R} {p k g : Int} {D K C : Nat} (h : LayIs R γ p k g D K C) (ds S : List (El R)) (hd : ds.length = D) (hS : S.length = D + C * K) (at' : Nat)
    (hs : ∀ i, cf S i ≠ cf (strL D C K (encB γ D C K ds)) i → at' ≤ i ∧ i < at' + burst D C K) :
    ∃ a : Nat, a ≤ burst D C K ∧ E3 15 p k g D K C (iv S) [] (NewIKI (iv ds) a 0) := by
  have h4 := h.tot
  have hX : AllOk γ D C K [] S (encB γ D C K ds) := fun k hk => by
    rw [era_none]; exact burst_ok hk (Nat.le_refl _) (encB_len hk hd) (encB_cw γ ds k) hs
  have hc : chgX D C K S (encB γ D C K ds) C ≤ burst D C K := by rw [chgX_chg]; exact burst_chg h.c1 hs
  have := dsI_val h S hS [] (by rw [iv_len, hS]; omega) (by simp) (stream_ok h S hS) rfl (encB γ D C K ds) hX
  rw [datX_enc h.c1 hd] at this
  exact ⟨_, hc, this⟩
theorem cf_set7 {R : Fld} (ps : List (El R)) (i : Nat) (x : El R) (j : Nat) (h : j ≠ i) : cf (ps.set i x) j = cf ps j := by
  unfold cf; rw [List.getD_eq_getElem?_getD, List.getD_eq_getElem?_getD, List.getElem?_set_ne (Ne.symm h)]
theorem Dice.re {w : World} {g Bc B0 : Nat} {A : Option Addr} {n c : Nat} {code : List Int} (h : Dice w g Bc A n c code) (hI : Ints .u8 w B0 A n code) (hB : B0 ≤ Bc) : Dice w g B0 A n c code :=
  ⟨hI, Nat.le_trans hB h.2.1, h.2.2⟩
theorem Dice.over {w w' : World} {g Bc b : Nat} {A : Option Addr} {n c : Nat} {code : List Int} (h : Dice w g Bc A n c code) (hg : w.grownBy w' (some b)) (hb : Bc ≤ b) (hne : g ≠ b) : Dice w' g Bc A n c code := by
  have hl := h.lt
  obtain ⟨h1, h2, h3, h4, p, sd, h5, h8⟩ := h
  exact ⟨h1.keep fun q o hq => World.cell?_of_block (hg.block q (by omega) (fun e => by injection e with e; omega)), h2, h3, h4, p, sd, h5, by rw [hg.block g hl (fun e => by injection e with e; exact hne e)]; exact h8⟩
end Go.Proofs.YtlphodhecaagbaaGreat

namespace Go.Proofs.YtlphodhecaagbaaGreat
open Go.RowKit
set_option linter.unusedSimpArgs false
set_option linter.unusedVariables false
theorem wtI_nv (F E : List Nat) (j : Nat) : wtI (nv F) (nv E) j = wgt E F j := by
  unfold wtI wgt; simp only [nv_in]
theorem dsum_nv (D C : Nat) (F E : List Nat) (k : Nat) : ∀ n, dsum D C (nv F) (nv E) (List.range n) k = sumB D C k (wgt E F) n
  | 0 => rfl
  | n + 1 => by
    rw [List.range_succ]
    show _ = sumB D C k (wgt E F) n + (if (pairOf D C n).1 = k then wgt E F n else 0)
    by_cases h : (pairOf D C n).1 = k
    · rw [dsum_yes h, dsum_nv D C F E k n, wtI_nv, if_pos h]
    · rw [dsum_no h, dsum_nv D C F E k n, if_neg h]; omega
theorem sd_key (p k g D K C : Int) (z z' : List Int) (hz : z.length ≤ 1048576) (hz' : z'.length ≤ 1048576) (hD : -9223372036854775808 ≤ D ∧ D ≤ 9223372036854775807) (hC : -9223372036854775808 ≤ C ∧ C ≤ 9223372036854775807) :
    ∃ (cd : Int) (b : Bool), E2 19 p k g D K C z z' (GivesBI b cd) ∧ E2 18 p k g D K C z z' (GivesBI b cd) ∧
      (cd ≠ 0 ∨ (cd = 0 ∧ b = false) ∨ (cd = 0 ∧ b = true ∧ ∃ (R : Fld) (γ : El R) (d c m : Nat) (F E : List Nat), D = d ∧ K = c ∧ C = m ∧ LayIs R γ p k g d c m ∧ z = nv F ∧ z' = nv E ∧ idxB ((d + m * c : Nat) : Int) (nv E) = true ∧ ∀ j, j < m → sumB d m j (wgt E F) (d + m * c) ≤ c)) := by
  rcases h : layB p k g D K C with _ | _
  · exact ⟨1, false, sdS_bad p k g D K C z z' hz hz' h, sdI_bad p k g D K C hD hC z z' hz hz' h, .inl (by decide)⟩
  · obtain ⟨R, γ, d, c, m, rfl, rfl, rfl, hI⟩ := layB_open h
    rcases hm : idxB ((d + m * c : Nat) : Int) z with _ | _
    · exact ⟨5, false, sdS_no1 hI z z' hz hz' hm, sdI_no1 hI z z' hz hz' hm, .inl (by decide)⟩
    · rcases hm' : idxB ((d + m * c : Nat) : Int) z' with _ | _
      · exact ⟨5, false, sdS_no2 hI z z' hz hz' hm hm', sdI_no2 hI z z' hz hz' hm hm', .inl (by decide)⟩
      · refine ⟨0, _, sdS_val hI z z' hz hz' hm hm', sdI_val hI z z' hz hz' hm hm', .inr ?_⟩
        by_cases hb : ∀ k, k < m → dsum d m z z' (List.range (d + m * c)) k ≤ c
        · right
          refine ⟨rfl, decide_eq_true hb, ?_⟩
          obtain ⟨F, rfl, _⟩ := idx_open hm
          obtain ⟨E, rfl, _⟩ := idx_open hm'
          exact ⟨R, γ, d, c, m, F, E, rfl, rfl, rfl, hI, rfl, rfl, hm', fun j hj => by rw [← dsum_nv]; exact hb j hj⟩
        · exact .inl ⟨rfl, decide_eq_false hb⟩
theorem data_ok {R : Fld} {γ : El R} {p k g : Int} {D K C : Nat} (h : LayIs R γ p k g D K C) (xs : List (El R)) (hx : xs.length = D) : lErr p k g D K C D (iv xs) = 0 := by
  have hwb := word_shut xs
  rw [hx] at hwb
  rw [lErr_is (layB_is h) h.fld.kind, if_pos hwb]
theorem dec_damage {R : Fld} {γ : El R} {p k g : Int} {D K C : Nat} (h : LayIs R γ p k g D K C) (ds S : List (El R)) (hd : ds.length = D) (hS : S.length = D + C * K) (E F : List Nat) (hz' : (nv E).length ≤ 1048576) (he : idxB ((D + C * K : Nat) : Int) (nv E) = true)
    (hs : ∀ i, cf S i ≠ cf (strL D C K (encB γ D C K ds)) i → i ∈ E ∨ i ∈ F) (hb : ∀ k, k < C → sumB D C k (wgt E F) (D + C * K) ≤ K) :
    ∃ a : Nat, E3 15 p k g D K C (iv S) (nv E) (NewIKI (iv ds) a 0) := by
  have h4 := h.tot
  have hX : AllOk γ D C K (nv E) S (encB γ D C K ds) := fun k hk => by
    rw [era_nv]; exact damage_ok hk (encB_len hk hd) (encB_cw γ ds k) hs (hb k hk)
  have := dsI_val h S hS (nv E) (by rw [iv_len, hS]; omega) hz' (stream_ok h S hS) he (encB γ D C K ds) hX
  rw [datX_enc h.c1 hd] at this
  exact ⟨_, this⟩
end Go.Proofs.YtlphodhecaagbaaGreat
