/-
  DecodePayload, of both.
  Condition: the list is no longer than 2^20.
-/
import Derived.Test.YthbmfaogjaahoaaPF
import Derived.Test.YthbmfaogjaahoaaPG
namespace Go.Proofs.Ythbmfaogjaahoaa
open Go Go.RowKit
set_option linter.unusedSimpArgs false
set_option linter.unusedVariables false

theorem dgN_validP {m : Int} (hm : 1 ≤ m ∧ m ≤ 4) (v : Nat) : ∀ t, ∀ x ∈ dgN (gbase m) m v t, 0 ≤ cval m x := by
  intro t
  induction t with
  | zero => intro x hx; cases hx
  | succ t ih =>
    intro x hx
    rw [dgN] at hx
    rcases List.mem_cons.1 hx with rfl | h
    · rw [cval_chr hm (Nat.mod_lt _ (gbase_pos m))]; omega
    · exact ih x h
theorem rdT_validP {zs : List Int} {a n : Nat} {m : Int} (hm : 1 ≤ m ∧ m ≤ 4) : ∀ j, ∀ x ∈ rdT zs a m n j, 0 ≤ cval m x := by
  intro j
  induction j with
  | zero => intro x hx; cases hx
  | succ j ih =>
    intro x hx
    rw [rdT] at hx
    rcases List.mem_append.1 hx with h | h
    · exact ih x h
    · exact dgN_validP hm _ _ x h
theorem strOf_dataP (ns : List Int) : (strOf ns).data.toList = ns.map (fun n => UInt8.ofNat n.toNat) := by
  have h : ∀ (l : List Int) (b : ByteArray), (l.foldl (fun r n => r.push (UInt8.ofNat n.toNat)) b).data.toList = b.data.toList ++ l.map (fun n => UInt8.ofNat n.toNat) := by
    intro l
    induction l with
    | nil => intro b; simp
    | cons a l ih => intro b; rw [List.foldl_cons, ih]; simp
  unfold strOf; rw [h]; simp

theorem bytesI_strOfP {ns : List Int} (h : ∀ x ∈ ns, 0 ≤ x ∧ x ≤ 255) : bytesI (strOf ns) = ns := by
  unfold bytesI
  rw [strOf_dataP, List.map_map]
  conv => rhs; rw [← List.map_id ns]
  apply List.map_congr_left
  intro x hx
  have := h x hx
  simp only [Function.comp, id]
  rw [UInt8.toNat_ofNat_of_lt' (show x.toNat < UInt8.size by show x.toNat < 256; omega)]
  omega
/-- What was read is a segment. -/
theorem rd_seg {zs : List Int} {p : Nat} (hbt : ∀ x ∈ zs, x = 0 ∨ x = 1) (h : rdB zs p = true) : segB (rdM zs p) (bytesI (rdS zs p)) = true := by
  obtain ⟨h1, h2, h3, _⟩ := rd_nums hbt h
  have hs1 := (sg_step (k := 0) (zs := zs) (p := p))
  have hr : RdIs zs p := by
    by_cases q : RdIs zs p
    · exact q
    · rw [(rd_no q).1] at h; cases h
  obtain ⟨_, g2, g3, _⟩ := rd_yes hr
  have hq := hr
  obtain ⟨_, q2, q3, q4, _, _⟩ := hq
  have hmm : 1 ≤ rdM0 zs p ∧ rdM0 zs p ≤ 4 := ⟨q2, q3⟩
  have hbs := bytesI_strOfP (fun x hx => rdT_byte (zs := zs) (a := p + 11) hmm (n := rdN0 zs p) (gct (gsz (rdM0 zs p)) (rdN0 zs p)) x hx)
  have hgn : rdN0 zs p ≤ gct (gsz (rdM0 zs p)) (rdN0 zs p) * gsz (rdM0 zs p) := by
    rcases Nat.lt_or_ge (gct (gsz (rdM0 zs p)) (rdN0 zs p) * gsz (rdM0 zs p)) (rdN0 zs p) with h | h
    · have := (gct_lt (gsz_pos (rdM0 zs p))).2 h; omega
    · exact h
  have hl : (rdS zs p).size = rdN0 zs p := by rw [g3, strOf_size, rdT_len _ _ _ _ _ (Nat.le_refl _)]; omega
  rw [g2, seg_is hmm (by rw [bytesI_len, hl]; rw [hl] at h2; omega)]
  unfold allV
  rw [List.all_eq_true]
  intro x hx
  rw [g3, hbs] at hx
  exact decide_eq_true (rdT_validP hmm _ x hx)
theorem jn_stot (zs : List Int) : ∀ k, (jn (spT zs) k).size = stot zs k := by
  intro k
  induction k with
  | zero => rfl
  | succ k ih => rw [jn_size, ih, stot]
theorem stot_mono (zs : List Int) {j k : Nat} (h : j ≤ k) : stot zs j ≤ stot zs k := by
  induction k with
  | zero => obtain rfl : j = 0 := by omega
            exact Nat.le_refl _
  | succ k ih =>
    by_cases e : j = k + 1
    · subst e; exact Nat.le_refl _
    · have := ih (by omega)
      rw [stot]; omega
/-- The text and the code of DecodePayload for a valid field. -/
noncomputable def dpS (q : Nat) (zs : List Int) : ByteArray := if pgK q zs = 0 then jn (pgT q zs) (pgN q zs) else ⟨#[]⟩
theorem dp_js (q : Nat) (zs : List Int) : (∀ j, j ≤ pgN q zs → (jn (pgT q zs) j).size ≤ 400) ∧ (∀ j, j < pgN q zs → (pgT q zs j).size ≤ 255) ∧ jsCode (pgM q zs) (pgT q zs) (pgN q zs) = 0 := by
  have hbt := ebR_bit q zs
  obtain ⟨f1, f2, f3⟩ := sgF_le hbt
  have hn : pgN q zs = (sgF (ebR q zs)).1 ∨ pgN q zs = 0 := by unfold pgN; split <;> simp
  have hle : pgN q zs ≤ (sgF (ebR q zs)).1 := by omega
  have hsz : ∀ j, j ≤ pgN q zs → (jn (pgT q zs) j).size ≤ 400 := fun j hj => by
    show (jn (spT (ebR q zs)) j).size ≤ 400
    rw [jn_stot]
    have := stot_mono (ebR q zs) (show j ≤ (sgF (ebR q zs)).1 by omega)
    omega
  have hrd : ∀ j, j < pgN q zs → rdB (ebR q zs) (spos (ebR q zs) j) = true := fun j hj => f3 j (by omega)
  refine ⟨hsz, fun j hj => (rd_nums hbt (hrd j hj)).2.1, ?_⟩
  have hal : slAll (pgM q zs) (pgT q zs) (pgN q zs) := fun j hj => rd_seg hbt (hrd j hj)
  exact (js_ok (sl_ok (by have := pgN_le q zs; omega) hal).1 (by have := hsz _ (Nat.le_refl _); omega)).1
def L1Rel (w : World) (n : Nat) (T : Nat → ByteArray) (t i : Value) (wr : World) : Prop :=
  ∃ (k : Nat) (q : ByteArray), k ≤ n ∧ i = .int .i64 k ∧ t = .string q ∧ Hid (jn T k = q) ∧ Below w.heap.size w wr

set_option maxRecDepth 100000 in
set_option maxHeartbeats 1000000 in
theorem specL11J (A : Option Addr) (n c B : Nat) (M : Nat → Int) (T : Nat → ByteArray) (w : World) (hI : Segs w B A n M T) (hB : B ≤ w.heap.size) (hn : n ≤ 400) (hJ : ∀ j, j ≤ n → (jn T j).size ≤ 400) (hT : ∀ j, j < n → (T j).size ≤ 255) :
    Calls Try.prog 45 #[.slice A n c] w (Gives (.string (jn T n)) w) := by
  have HI := hide hI
  have HLE := hide hJ
  have HT := hide hT
  clear hI hJ hT
  go_enter Try.func45, Try.ntmps45
  go_wp2_with fail
  go_loopw [3, 4] (fun t i wr => L1Rel w n T t i wr) (fun _ i _ => n - (intOf i).toNat)
  case atStart => exact ⟨0, ⟨#[]⟩, Nat.zero_le _, rfl, rfl, rfl, Below.refl _ _⟩
  case round =>
    obtain ⟨k, q, hk, rfl, rfl, hj, hb⟩ := hrel
    have HJ := hj
    have HB := hide hb
    clear hj hb
    have hqs : q.size ≤ 400 := by have := HLE.out k hk; rw [HJ.out] at this; omega
    by_cases hlt : k < n
    · obtain ⟨b, off, rfl, hbb, hc⟩ := HI.out (by omega)
      have e1 : wr.cell? ⟨b, off + k * 2 + 1, none⟩ = some (.string (T k)) := (HB.out.cell (p := ⟨b, off + k * 2 + 1, none⟩) (by show b < _; omega)).trans (hc k hlt).2
      have hs := HT.out k hlt
      have HJ1 := hide (show jn T (k + 1) = q ++ T k by rw [jn, HJ.out])
      obtain ⟨s, hse⟩ : ∃ s, T k = s := ⟨_, rfl⟩
      rw [hse] at e1 hs HJ1
      clear hse hc
      go_wp2_with fail
      go_roundw
      case rel => exact ⟨k + 1, q ++ s, by omega, by go_num, rfl, HJ1, HB.out⟩
      case measure => simp [intOf]; omega
    · obtain rfl : k = n := by omega
      go_wp2_with fail
      go_ret
      refine ⟨?_, HB.out⟩
      rw [HJ.out]; rfl
-- MAIN
theorem js_out {M : Nat → Int} {T : Nat → ByteArray} {n : Nat} (h : jsCode M T n = 0) : jsOf M T n = jn T n := by unfold jsOf; rw [if_pos h]

end Go.Proofs.Ythbmfaogjaahoaa
