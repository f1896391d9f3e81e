/-
  The segments of the best segmentation, on both sides.
  Condition: as each statement says.
-/
import Derived.Test.YtdccofbfdlebgaaDp9
import Derived.Test.YtdccofbfdlebgaaDpA
import Derived.Test.YtdccofbfdlebgaaSq2
import Derived.Test.YtdccofbfdlebgaaSbLay
namespace Go.Proofs.Ytdccofbfdlebgaa
open Go Go.RowKit
set_option linter.unusedSimpArgs false
set_option linter.unusedVariables false

/-- append(out, segment). -/
theorem wp_appSeg {base : Nat} {v : Value} {n : Nat} {f : Nat → Value} (w : World) {o : Oper} {a : Act} {K : Act → World → Prop} {Q : Exit → Act → World → Prop} (s x : Operand)
    (ho : o.op = .call { callee := .builtin .append, args := #[s, x], argTypes := #[44, 44] })
    (hs : a.eval s = v) (h : OwnS w base v n f) (x0 : Int) (x1 : ByteArray) (hf : f (n * 2) = .int .i64 x0 ∧ f (n * 2 + 1) = .string x1)
    (hx : a.eval x = .slice (some ⟨w.heap.size, 0, none⟩) 1 1) (hlen : n ≤ 10000) (hbase : base ≤ w.heap.size)
    (hk : ∀ v' w', OwnS w' base v' (n + 1) f → w.grownBy w' v.ownBlock → K (a.put o.dst v') w') :
    o.wp Try.prog a (w.alloc (.cells #[.int .i64 x0, .string x1] 24)) K Q := by
  obtain ⟨i, hi, hz0, hz1, hz2⟩ := info_parts elemS
  refine wp_append_own (w := w.alloc (.cells #[.int .i64 x0, .string x1] 24)) s x 44 ho base 24 i _ 2 24 Try.underlying44 hi hz0 hz1 hz2 rfl (by decide) v n _ hs (World.ownsRow.alloc h _) ⟨w.heap.size, 0, none⟩ 1 1 [.int .i64 x0, .string x1] hx rfl
    (World.news_of_block (heap_alloc_new w (.cells #[.int .i64 x0, .string x1] 24))) (fun u hu => ?_) (by simp only [maxLen]; omega) (by omega) (by rw [alloc_size]; omega) fun v' w' h2 h3 _ => ?_
  · simp only [List.mem_cons, List.not_mem_nil, or_false] at hu
    rcases hu with rfl | rfl <;> rfl
  · refine hk v' w' ?_ (grown_trans (World.grownBy_alloc w _ _) h3)
    unfold OwnS
    obtain ⟨f0, f1⟩ := hf
    rw [show (n + 1) * 2 = n * 2 + 2 by omega, show (List.range (n * 2 + 2)) = List.range (n * 2) ++ [n * 2, n * 2 + 1] by simp [List.range_succ], List.map_append]
    simp only [List.map_cons, List.map_nil, f0, f1]
    exact h2
/-- make([]Segment, 0, c). -/
theorem wpList_mkSeg {P : Program} (hP : P = Try.prog) (w : World) {ops : Array Oper} {rest : List Oper} {o : Oper} {a : Act} {Q : Exit → Act → World → Prop} (hg : o.guard = none) (l c : Operand) (hop : o.op = Op.makeSlice 44 l c)
    (n : Nat) (f : Nat → Value) (hl : a.eval l = .int .i64 0) (hc : a.eval c = .int .i64 (n : Nat)) (hn : n ≤ 1000)
    (hK : ∀ w', OwnS w' w.heap.size (.slice (some ⟨w.heap.size, 0, none⟩) 0 n) 0 f → Below w.heap.size w w' → wpList P ops Q rest (a.put o.dst (.slice (some ⟨w.heap.size, 0, none⟩) 0 n)) w') :
    wpList P ops Q (o :: rest) a w := by
  subst hP
  obtain ⟨i, hi, hz0, hz1, hz2⟩ := info_parts elemS
  refine wpList_make_own w hg l c 44 hop w.heap.size 24 i _ 2 Try.underlying44 hi hz0 hz1 .i64 .i64 _ n hl hc rfl (by rw [hz2]; omega) (by simp only [maxLen]; omega) (Nat.le_refl _) fun w' h1 h2 => ?_
  exact hK w' h1 ((Below.refl w.heap.size w).grown h2 (Nat.le_refl _) (by simp))
theorem apartS {w : World} {b N base n : Nat} {T : TypeId} {t : Nat → Cel} {v : Value} {f : Nat → Value} (h : RowQ w b T N t) (hT : T ≠ 24) (h' : OwnS w base v n f) : some b ≠ v.ownBlock := by
  obtain ⟨cs, hb, _⟩ := h
  rcases h'.2 with ⟨rfl, _⟩ | ⟨g, cap, cur, rfl, _, hg, _⟩
  · simp [Value.ownBlock]
  · intro e
    simp only [Value.ownBlock, Option.some.injEq] at e
    subst e; rw [hb] at hg; cases hg; exact hT rfl
theorem bytes_in (s : ByteArray) : ∀ x ∈ bytesI s, 0 ≤ x ∧ x ≤ 255 := by
  intro x hx
  unfold bytesI at hx
  rw [List.mem_map] at hx
  obtain ⟨b, _, rfl⟩ := hx
  have := b.toNat_lt
  omega
def bsT (s : ByteArray) : Nat → Cel := tabT (bytesI s)
/-- The modes and texts of the best segmentation. -/
def sgM (s : ByteArray) (k : Nat) : Int := ((bsT s (pos (bsT s) k)).m : Nat)
def sgT (s : ByteArray) (k : Nat) : ByteArray := s.extract (pos (bsT s) k) (pos (bsT s) (k + 1))
def sgN (s : ByteArray) : Nat := (bsT s 0).c
theorem sgN_le (s : ByteArray) : sgN s ≤ s.size := by have h : (tabT (bytesI s) 0).c ≤ (bytesI s).length := tab_c; rw [bytesI_len] at h; exact h
theorem pos_ltS (s : ByteArray) {k : Nat} (hk : k ≤ sgN s) : pos (bsT s) k < s.size ↔ k < sgN s := by
  have h := pos_lt (bs := bytesI s) (bytes_in s) hk
  rw [bytesI_len] at h; exact h
theorem saysS (s : ByteArray) {i : Nat} (h : i < s.size) : 1 ≤ (bsT s i).s ∧ (bsT s i).s ≤ 255 ∧ i + (bsT s i).s ≤ s.size ∧ 1 ≤ (bsT s i).m ∧ (bsT s i).m ≤ 4 := by
  obtain ⟨h1, h2, h3, _, h5, h6, _⟩ := tab_says (bs := bytesI s) (i := i) (by rw [bytesI_len]; exact h) (bytes_in s)
  rw [bytesI_len] at h3
  exact ⟨h1, h2, h3, h5, h6⟩
theorem sg_at (s : ByteArray) {k p sz m : Nat} (hp : p = pos (bsT s) k) (hsz : (bsT s p).s = sz) (hm : (bsT s p).m = m) : segV (sgM s) (sgT s) (k * 2) = .int .i64 (m : Nat) ∧ segV (sgM s) (sgT s) (k * 2 + 1) = .string (s.extract p (p + sz)) := by
  obtain ⟨h1, h2⟩ := segV_at (sgM s) (sgT s) k
  rw [h1, h2]
  refine ⟨?_, ?_⟩
  · unfold sgM; rw [← hp, hm]
  · unfold sgT; rw [pos, ← hp, hsz]

/-- What a function leaves that returns a new slice of segments. -/
def BestPost (s : ByteArray) (w : World) (x : Ending) (w' : World) : Prop := NewS (sgN s) (sgM s) (sgT s) w x w'
def SbsRel (w : World) (s : ByteArray) (n1 : Nat) (v i : Value) (wr : World) : Prop :=
  ∃ k p : Nat, k ≤ sgN s ∧ Hid (p = pos (bsT s) k) ∧ p ≤ s.size ∧ i = .int .i64 p ∧ OwnS wr w.heap.size v k (segV (sgM s) (sgT s)) ∧ RowQ wr w.heap.size 96 n1 (bsT s) ∧ Below w.heap.size w wr

set_option maxRecDepth 100000 in
set_option maxHeartbeats 4000000 in
theorem specBest (s : ByteArray) (hs : s.size ≤ 400) (w : World) :
    Calls Try.prog 79 #[.string s] w (BestPost s w) := by
  have hN := sgN_le s
  obtain ⟨n1, hn1⟩ : ∃ n1, s.size + 1 = n1 := ⟨_, rfl⟩
  have HN1 := hide hn1
  have HT := hide (specTable s hs)
  clear hn1
  go_enter Try.func79, Try.ntmps79
  go_wp2_with fail
  refine (HT.out _).mono ?_
  rintro e w1 ⟨rfl, hr, hb1⟩
  rw [HN1.out] at hr ⊢
  have HROW := hide (show RowQ (w1.alloc (.cells #[] 24)) w.heap.size 96 n1 (bsT s) by
    have h := hr.alloc (.cells #[] 24)
    rw [show tabN (bytesI s) s.size = bsT s by unfold bsT tabT; rw [bytesI_len]] at h; exact h)
  have HO := hide (show OwnS (w1.alloc (.cells #[] 24)) w.heap.size (.slice (some ⟨w1.heap.size, 0, none⟩) 0 0) 0 (segV (sgM s) (sgT s)) from World.ownsRow_lit (base := w.heap.size) (size := 2) (e := 24) w1 #[] 0 hb1.size (by decide) rfl)
  have HB := hide (hb1.alloc hb1.size (.cells #[] 24))
  clear hr hb1 HT
  go_wp2_with fail
  go_loopw [4, 5] (fun v i wr => SbsRel w s n1 v i wr) (fun _ i _ => s.size - (intOf i).toNat)
  case atStart => exact ⟨0, 0, Nat.zero_le _, rfl, Nat.zero_le _, rfl, HO.out, HROW.out, HB.out⟩
  case round =>
    clear HO HROW HB
    obtain ⟨k, p, hk, hp, hps, rfl, ho, hr, hb⟩ := hrel
    have HP := hp
    have HO := hide ho
    have HROW := hide hr
    have HB := hide hb
    clear hp ho hr hb
    obtain ⟨v, rfl⟩ : ∃ v : Value, v = u4 := ⟨_, rfl⟩
    by_cases hlt : p < s.size
    · have hkn : k < sgN s := (pos_ltS s hk).1 (by rw [← HP.out]; exact hlt)
      obtain ⟨a1, a2, a3, a4, a5⟩ := saysS s hlt
      obtain ⟨_, _, d2, d3⟩ := HROW.out.cells (i := p) (by have := HN1.out; omega)
      obtain ⟨sz, hsz⟩ : ∃ sz, (bsT s p).s = sz := ⟨_, rfl⟩
      obtain ⟨md, hmd⟩ : ∃ md, (bsT s p).m = md := ⟨_, rfl⟩
      have HF := hide (sg_at s HP.out hsz hmd)
      have HSZ := hide hsz
      have HMD := hide hmd
      have HP2 := hide (show p + sz = pos (bsT s) (k + 1) by rw [pos, ← HP.out, hsz])
      rw [hsz] at a1 a2 a3 d2
      rw [hmd] at d3
      have hpn : p < n1 := by have := HN1.out; omega
      obtain ⟨p2, hp2⟩ : ∃ p2, p + sz = p2 := ⟨_, rfl⟩
      have hw2 : IntKind.i64.wrap (p2 : Int) = (p2 : Int) := IntWalk.i64_in _ ⟨by omega, by omega⟩
      have hpI : (p : Int) + (sz : Int) = (p2 : Int) := by omega
      have hp2s : p2 ≤ s.size := by omega
      have hpp2 : p ≤ p2 := by omega
      have hpp3 : p < p2 := by omega
      rw [hp2] at HF HP2
      clear hsz hmd hp2 a3
      go_wp2_with fail
      refine tail_begin (fun w' => w'.cell? ⟨w.heap.size, p * 4 + 2, none⟩ = some (.int .i64 (sz : Nat)) ∧ w'.cell? ⟨w.heap.size, p * 4 + 3, none⟩ = some (.int .i64 (md : Nat))) 20 (by kernel_rfl) ⟨d2, d3⟩ (fun hS' => ?_)
      refine tail_take2 0 rfl (by kernel_rfl) (by kernel_rfl) (by kernel_rfl) (by decide) (fun _ _ _ h => h) (by rfl) (v := ?_) ?_ (by assumption) ?_
      rotate_left 1
      · intro w' hS'; obtain ⟨c2, c3⟩ := hS'; go_simp; try with_reducible rfl
      try simp only [Act.put, List.setIfInBounds_toArray, List.set_cons_zero, List.set_cons_succ]
      refine tail_take2 1 rfl (by kernel_rfl) (by kernel_rfl) (by kernel_rfl) (by decide) (fun _ _ _ h => h) (by rfl) (v := ?_) ?_ (by assumption) ?_
      rotate_left 1
      · intro w' hS'; obtain ⟨c2, c3⟩ := hS'; go_simp; try with_reducible rfl
      try simp only [Act.put, List.setIfInBounds_toArray, List.set_cons_zero, List.set_cons_succ]
      refine tail_take2 2 rfl (by kernel_rfl) (by kernel_rfl) (by kernel_rfl) (by decide) (fun _ _ _ h => h) (by rfl) (v := ?_) ?_ (by assumption) ?_
      rotate_left 1
      · intro w' hS'; obtain ⟨c2, c3⟩ := hS'; go_simp; try with_reducible rfl
      try simp only [Act.put, List.setIfInBounds_toArray, List.set_cons_zero, List.set_cons_succ]
      refine tail_take2 3 rfl (by kernel_rfl) (by kernel_rfl) (by kernel_rfl) (by decide) (fun _ _ _ h => h) (by rfl) (v := ?_) ?_ (by assumption) ?_
      rotate_left 1
      · intro w' hS'; obtain ⟨c2, c3⟩ := hS'; go_simp; try with_reducible rfl
      try simp only [Act.put, List.setIfInBounds_toArray, List.set_cons_zero, List.set_cons_succ]
      refine tail_take2 4 rfl (by kernel_rfl) (by kernel_rfl) (by kernel_rfl) (by decide) (fun _ _ _ h => h) (by rfl) (v := ?_) ?_ (by assumption) ?_
      rotate_left 1
      · intro w' hS'; obtain ⟨c2, c3⟩ := hS'; go_simp; try with_reducible rfl
      try simp only [Act.put, List.setIfInBounds_toArray, List.set_cons_zero, List.set_cons_succ]
      refine tail_take2 5 rfl (by kernel_rfl) (by kernel_rfl) (by kernel_rfl) (by decide) (fun _ _ _ h => h) (by rfl) (v := ?_) ?_ (by assumption) ?_
      rotate_left 1
      · intro w' hS'; obtain ⟨c2, c3⟩ := hS'; go_simp; try with_reducible rfl
      try simp only [Act.put, List.setIfInBounds_toArray, List.set_cons_zero, List.set_cons_succ]
      refine tail_take2 6 rfl (by kernel_rfl) (by kernel_rfl) (by kernel_rfl) (by decide) (fun _ _ _ h => h) (by rfl) (v := ?_) ?_ (by assumption) ?_
      rotate_left 1
      · intro w' hS'; obtain ⟨c2, c3⟩ := hS'; go_simp; try with_reducible rfl
      try simp only [Act.put, List.setIfInBounds_toArray, List.set_cons_zero, List.set_cons_succ]
      refine tail_take2 7 rfl (by kernel_rfl) (by kernel_rfl) (by kernel_rfl) (by decide) (fun _ _ _ h => h) (by rfl) (v := ?_) ?_ (by assumption) ?_
      rotate_left 1
      · intro w' hS'; obtain ⟨c2, c3⟩ := hS'; go_simp; try with_reducible rfl
      try simp only [Act.put, List.setIfInBounds_toArray, List.set_cons_zero, List.set_cons_succ]
      refine tail_take2 8 rfl (by kernel_rfl) (by kernel_rfl) (by kernel_rfl) (by decide) (fun _ _ _ h => h) (by rfl) (v := ?_) ?_ (by assumption) ?_
      rotate_left 1
      · intro w' hS'; obtain ⟨c2, c3⟩ := hS'; go_simp; try with_reducible rfl
      try simp only [Act.put, List.setIfInBounds_toArray, List.set_cons_zero, List.set_cons_succ]
      refine tail_take2 9 rfl (by kernel_rfl) (by kernel_rfl) (by kernel_rfl) (by decide) (fun _ _ _ h => h) (by rfl) (v := ?_) ?_ (by assumption) ?_
      rotate_left 1
      · intro w' hS'; obtain ⟨c2, c3⟩ := hS'; go_simp; try with_reducible rfl
      try simp only [Act.put, List.setIfInBounds_toArray, List.set_cons_zero, List.set_cons_succ]
      refine tail_take2 10 rfl (by kernel_rfl) (by kernel_rfl) (by kernel_rfl) (by decide) (fun _ _ _ h => h) (by rfl) (v := ?_) ?_ (by assumption) ?_
      rotate_left 1
      · intro w' hS'; obtain ⟨c2, c3⟩ := hS'; go_simp; try with_reducible rfl
      try simp only [Act.put, List.setIfInBounds_toArray, List.set_cons_zero, List.set_cons_succ]
      refine tail_take2 11 rfl (by kernel_rfl) (by kernel_rfl) (by kernel_rfl) (by decide) (fun _ _ _ h => h) (by rfl) (v := ?_) ?_ (by assumption) ?_
      rotate_left 1
      · intro w' hS'; obtain ⟨c2, c3⟩ := hS'; go_simp; try with_reducible rfl
      try simp only [Act.put, List.setIfInBounds_toArray, List.set_cons_zero, List.set_cons_succ]
      refine tail_take2 12 rfl (by kernel_rfl) (by kernel_rfl) (by kernel_rfl) (by decide) (fun _ _ _ h => h) (by rfl) (v := ?_) ?_ (by assumption) ?_
      rotate_left 1
      · intro w' hS'; obtain ⟨c2, c3⟩ := hS'; go_simp; try with_reducible rfl
      try simp only [Act.put, List.setIfInBounds_toArray, List.set_cons_zero, List.set_cons_succ]
      refine tail_take2 13 rfl (by kernel_rfl) (by kernel_rfl) (by kernel_rfl) (by decide) (fun _ _ _ h => h) (by rfl) (v := ?_) ?_ (by assumption) ?_
      rotate_left 1
      · intro w' hS'; obtain ⟨c2, c3⟩ := hS'; go_simp; try with_reducible rfl
      try simp only [Act.put, List.setIfInBounds_toArray, List.set_cons_zero, List.set_cons_succ]
      refine tail_take2 14 rfl (by kernel_rfl) (by kernel_rfl) (by kernel_rfl) (by decide) (fun _ _ _ h => h) (by rfl) (v := ?_) ?_ (by assumption) ?_
      rotate_left 1
      · intro w' hS'; obtain ⟨c2, c3⟩ := hS'; go_simp; try with_reducible rfl
      try simp only [Act.put, List.setIfInBounds_toArray, List.set_cons_zero, List.set_cons_succ]
      refine tail_take2 15 rfl (by kernel_rfl) (by kernel_rfl) (by kernel_rfl) (by decide) (fun _ _ _ h => h) (by rfl) (v := ?_) ?_ (by assumption) ?_
      rotate_left 1
      · intro w' hS'; obtain ⟨c2, c3⟩ := hS'; go_simp; try with_reducible rfl
      try simp only [Act.put, List.setIfInBounds_toArray, List.set_cons_zero, List.set_cons_succ]
      refine tail_take2 16 rfl (by kernel_rfl) (by kernel_rfl) (by kernel_rfl) (by decide) (fun _ _ _ h => h) (by rfl) (v := ?_) ?_ (by assumption) ?_
      rotate_left 1
      · intro w' hS'; obtain ⟨c2, c3⟩ := hS'; go_simp; try with_reducible rfl
      try simp only [Act.put, List.setIfInBounds_toArray, List.set_cons_zero, List.set_cons_succ]
      have HSd := hide (show wr.drew.cell? ⟨w.heap.size, p * 4 + 2, none⟩ = some (.int .i64 (sz : Nat)) ∧ wr.drew.cell? ⟨w.heap.size, p * 4 + 3, none⟩ = some (.int .i64 (md : Nat)) from ⟨d2, d3⟩)
      have HOd := hide HO.out.drew
      have HRd := hide HROW.out.drew
      have HBd := hide HB.out.drew
      obtain ⟨wd, hwd⟩ : ∃ q, wr.drew = q := ⟨_, rfl⟩
      rw [hwd] at hS' HSd HOd HRd HBd ⊢
      clear hwd d2 d3 HO HROW HB
      refine tail_call 17 rfl (by kernel_rfl) rfl (fun K' hK => ?_)
      go_simp
      refine hK.out _ _ (by (try dsimp only); exact ⟨cell_keep HSd.out.1 _, cell_keep HSd.out.2 _⟩) (fun hS' => ?_)
      clear hK K'
      try simp only [Act.put, List.setIfInBounds_toArray, List.set_cons_zero, List.set_cons_succ]
      refine tail_call 18 rfl (by kernel_rfl) rfl (fun K' hK => ?_)
      refine wp_appSeg wd (.tmp 20) (.tmp 37) rfl rfl HOd.out _ _ HF.out rfl (by omega) HBd.out.size (fun v' w' h1 h2 => ?_)
      have HO2 := hide h1
      have hap := apartS HRd.out (by decide) HOd.out
      have HR2 := hide (HRd.out.grown h2 (Ne.symm hap))
      have HB2 := hide (HBd.out.grown h2 HBd.out.size (fun g hg => ((World.ownsRow.lt HOd.out) g hg).1))
      obtain ⟨_, _, d2, d3⟩ := HR2.out.cells (i := p) hpn
      rw [HSZ.out] at d2
      rw [HMD.out] at d3
      clear h1 h2 hap
      refine hK.out _ _ (by (try dsimp only); exact ⟨d2, d3⟩) (fun hS' => ?_)
      clear hK K'
      try simp only [Act.put, List.setIfInBounds_toArray, List.set_cons_zero, List.set_cons_succ]
      refine tail_take2 19 rfl (by kernel_rfl) (by kernel_rfl) (by kernel_rfl) (by decide) (fun _ _ _ h => h) (by rfl) (v := ?_) ?_ (by assumption) ?_
      rotate_left 1
      · intro w' hS'; obtain ⟨c2, c3⟩ := hS'; go_simp; try with_reducible rfl
      try simp only [Act.put, List.setIfInBounds_toArray, List.set_cons_zero, List.set_cons_succ]
      refine tail_end (by kernel_rfl) ?_
      clear hS'
      go_wp2_with fail
      go_roundw
      case rel => exact ⟨k + 1, p2, by omega, HP2, hp2s, by first | rfl | go_num, HO2.out, HR2.out, HB2.out⟩
      case measure => simp [intOf]; omega
    · have hkn : k = sgN s := by
        rcases Nat.lt_or_ge k (sgN s) with h | h
        · exact absurd ((pos_ltS s hk).2 h) (by rw [← HP.out]; exact hlt)
        · omega
      obtain ⟨A, c, hv, hc1, hc2⟩ := HO.out.form0
      subst hv
      have HF := hide (show BestPost s w (.returned (.slice A k c)) wr from ⟨A, c, by rw [hkn], by omega, hc2, by have h := HO.out; rw [hkn] at h; exact h, HB.out⟩)
      clear hkn
      go_wp2_with fail
      go_ret
      exact HF.out

theorem ext_ext {s : ByteArray} {p a b N : Nat} (hN : N ≤ s.size) (hb : p + b ≤ N) : (s.extract p N).extract a b = s.extract (p + a) (p + b) := by
  apply ByteArray.ext
  rw [ByteArray.data_extract, ByteArray.data_extract, ByteArray.data_extract, Array.extract_extract]
  congr 1
  omega
def SgsRel (w : World) (s : ByteArray) (bt : Nat) (v i : Value) (wr : World) : Prop :=
  ∃ (k p : Nat) (r : ByteArray), k ≤ sgN s ∧ Hid (p = pos (bsT s) k) ∧ p ≤ s.size ∧ i = .string r ∧ Hid (r = s.extract p s.size) ∧ OwnS wr w.heap.size v k (segV (sgM s) (sgT s)) ∧ RowQ wr bt 104 401 (bsT s) ∧ Below w.heap.size w wr

set_option maxRecDepth 100000 in
set_option maxHeartbeats 4000000 in
theorem implSegments (s : ByteArray) (hs : s.size ≤ 400) (bt : Nat) (w : World) (hr : RowQ w bt 104 401 (bsT s)) :
    Calls Try.prog 80 #[.pointer (some ⟨bt, 0, none⟩), .string s] w (BestPost s w) := by
  have hN := sgN_le s
  obtain ⟨_, c1, _, _⟩ := hr.cells (i := 0) (by omega)
  rw [Nat.zero_mul, Nat.zero_add] at c1
  have HR0 := hide hr
  obtain ⟨n0, hn0⟩ : ∃ n0, (bsT s 0).c = n0 := ⟨_, rfl⟩
  rw [hn0] at c1
  have hn400 : n0 ≤ 1000 := by rw [← hn0]; have := hN; unfold sgN at this; omega
  clear hr hn0
  go_enter Try.func80, Try.ntmps80
  go_wp2_with (at_make; refine wpList_mkSeg rfl _ rfl _ _ rfl n0 (segV (sgM s) (sgT s)) rfl rfl hn400 ?_; intro w1 ho hb)
  have HO := hide ho
  have HB := hide hb
  have HROW := hide (HR0.out.next hb)
  clear ho hb HR0 c1
  have HR1 := hide (show s = s.extract 0 s.size by simp)
  go_loopw [5, 6] (fun v i wr => SgsRel w s bt v i wr) (fun _ i _ => match i with | .string q => q.size | _ => 0)
  case atStart => exact ⟨0, 0, s, Nat.zero_le _, rfl, Nat.zero_le _, rfl, HR1, HO.out, HROW.out, HB.out⟩
  case round =>
    clear HO HROW HB HR1
    obtain ⟨k, p, r, hk, hp, hps, rfl, hre, ho, hr, hb⟩ := hrel
    have HP := hp
    have HRE := hre
    have HO := hide ho
    have HROW := hide hr
    have HB := hide hb
    clear hp hre ho hr hb
    obtain ⟨v, rfl⟩ : ∃ v : Value, v = u5 := ⟨_, rfl⟩
    have hrs : r.size + p = s.size := by rw [HRE.out]; simp; omega
    by_cases hlt : p < s.size
    · have hkn : k < sgN s := (pos_ltS s hk).1 (by rw [← HP.out]; exact hlt)
      have hne := nonempty_of (q := r) (by omega)
      have hidx : (s.size : Int) - (r.size : Int) = (p : Int) := by omega
      obtain ⟨a1, a2, a3, a4, a5⟩ := saysS s hlt
      obtain ⟨d0, d1, d2, d3⟩ := HROW.out.cells (i := p) (by omega)
      obtain ⟨sz, hsz⟩ : ∃ sz, (bsT s p).s = sz := ⟨_, rfl⟩
      obtain ⟨md, hmd⟩ : ∃ md, (bsT s p).m = md := ⟨_, rfl⟩
      obtain ⟨lx, hlx⟩ : ∃ lx, (bsT s p).l = lx := ⟨_, rfl⟩
      obtain ⟨cx, hcx⟩ : ∃ cx, (bsT s p).c = cx := ⟨_, rfl⟩
      have HF := hide (sg_at s HP.out hsz hmd)
      have HP2 := hide (show p + sz = pos (bsT s) (k + 1) by rw [pos, ← HP.out, hsz])
      rw [hsz] at a1 a2 a3 d2
      rw [hmd] at d3
      rw [hlx] at d0
      rw [hcx] at d1
      have hp401 : p < 401 := by omega
      have hp401I : (p : Int) < 401 := by omega
      have hszr : sz ≤ r.size := by omega
      have HE1 := hide (show r.extract 0 sz = s.extract p (p + sz) by rw [HRE.out, ext_ext (Nat.le_refl _) a3, Nat.add_zero])
      have HE2 := hide (show r.extract sz r.size = s.extract (p + sz) s.size by
        have hz : r.size = s.size - p := by omega
        conv => lhs; rw [hz, HRE.out]
        rw [ext_ext (Nat.le_refl _) (by omega), show p + (s.size - p) = s.size by omega])
      have HSZX := hide (show (r.extract 0 sz).size ≤ 1000000 by simp; omega)
      have HMS := hide (show (r.extract sz r.size).size < r.size by simp; omega)
      have HP3 := hide a3
      rw [← HE1.out] at HF
      obtain ⟨tx, htx⟩ : ∃ tx, r.extract 0 sz = tx := ⟨_, rfl⟩
      have HBX := hide (heap_alloc_new wr (.cells #[.int .i64 (lx : Nat), .int .i64 (cx : Nat), .int .i64 (sz : Nat), .int .i64 (md : Nat)] 102))
      have HCL := hide (fun w' => clone_str (r.extract 0 sz) w' HSZX.out)
      clear hsz hmd hlx hcx a3 htx hrs
      go_wp2_with fail
      obtain ⟨wq, hwq⟩ : ∃ wq, wr.alloc (.cells #[.int .i64 (lx : Nat), .int .i64 (cx : Nat), .int .i64 (sz : Nat), .int .i64 (md : Nat)] 102) = wq := ⟨_, rfl⟩
      have hbq : Below wr.heap.size wr wq := by rw [← hwq]; exact (Below.refl _ _).alloc (Nat.le_refl _) _
      have HOq := hide (HO.out.next hbq)
      have HRq := hide (HROW.out.next hbq)
      have HBq := hide (HB.out.trans (hbq.mono HB.out.size))
      rw [hwq] at HBX ⊢
      clear hwq hbq d0 d1 d2 d3 HO HROW HB
      refine tail_begin (fun w' => w'.cell? ⟨wr.heap.size, 0, none⟩ = some (.int .i64 (lx : Nat)) ∧ w'.cell? ⟨wr.heap.size, 1, none⟩ = some (.int .i64 (cx : Nat)) ∧ w'.cell? ⟨wr.heap.size, 2, none⟩ = some (.int .i64 (sz : Nat)) ∧ w'.cell? ⟨wr.heap.size, 3, none⟩ = some (.int .i64 (md : Nat))) 12 (by kernel_rfl) (row4 HBX.out) (fun hS' => ?_)
      refine tail_take2 0 rfl (by kernel_rfl) (by kernel_rfl) (by kernel_rfl) (by decide) (fun _ _ _ h => h) (by rfl) (v := ?_) ?_ (by assumption) ?_
      rotate_left 1
      · intro w' hS'; obtain ⟨c0, c1, c2, c3⟩ := hS'; go_simp; try with_reducible rfl
      try simp only [Act.put, List.setIfInBounds_toArray, List.set_cons_zero, List.set_cons_succ]
      refine tail_take2 1 rfl (by kernel_rfl) (by kernel_rfl) (by kernel_rfl) (by decide) (fun _ _ _ h => h) (by rfl) (v := ?_) ?_ (by assumption) ?_
      rotate_left 1
      · intro w' hS'; obtain ⟨c0, c1, c2, c3⟩ := hS'; go_simp; try with_reducible rfl
      try simp only [Act.put, List.setIfInBounds_toArray, List.set_cons_zero, List.set_cons_succ]
      refine tail_take2 2 rfl (by kernel_rfl) (by kernel_rfl) (by kernel_rfl) (by decide) (fun _ _ _ h => h) (by rfl) (v := ?_) ?_ (by assumption) ?_
      rotate_left 1
      · intro w' hS'; obtain ⟨c0, c1, c2, c3⟩ := hS'; go_simp; try with_reducible rfl
      try simp only [Act.put, List.setIfInBounds_toArray, List.set_cons_zero, List.set_cons_succ]
      refine tail_take2 3 rfl (by kernel_rfl) (by kernel_rfl) (by kernel_rfl) (by decide) (fun _ _ _ h => h) (by rfl) (v := ?_) ?_ (by assumption) ?_
      rotate_left 1
      · intro w' hS'; obtain ⟨c0, c1, c2, c3⟩ := hS'; go_simp; try with_reducible rfl
      try simp only [Act.put, List.setIfInBounds_toArray, List.set_cons_zero, List.set_cons_succ]
      refine tail_take2 4 rfl (by kernel_rfl) (by kernel_rfl) (by kernel_rfl) (by decide) (fun _ _ _ h => h) (by rfl) (v := ?_) ?_ (by assumption) ?_
      rotate_left 1
      · intro w' hS'; obtain ⟨c0, c1, c2, c3⟩ := hS'; go_simp; try with_reducible rfl
      try simp only [Act.put, List.setIfInBounds_toArray, List.set_cons_zero, List.set_cons_succ]
      refine tail_take2 5 rfl (by kernel_rfl) (by kernel_rfl) (by kernel_rfl) (by decide) (fun _ _ _ h => h) (by rfl) (v := ?_) ?_ (by assumption) ?_
      rotate_left 1
      · intro w' hS'; obtain ⟨c0, c1, c2, c3⟩ := hS'; go_simp; try with_reducible rfl
      try simp only [Act.put, List.setIfInBounds_toArray, List.set_cons_zero, List.set_cons_succ]
      refine tail_take2 6 rfl (by kernel_rfl) (by kernel_rfl) (by kernel_rfl) (by decide) (fun _ _ _ h => h) (by rfl) (v := ?_) ?_ (by assumption) ?_
      rotate_left 1
      · intro w' hS'; obtain ⟨c0, c1, c2, c3⟩ := hS'; go_simp; try with_reducible rfl
      try simp only [Act.put, List.setIfInBounds_toArray, List.set_cons_zero, List.set_cons_succ]
      refine tail_call 7 rfl (by kernel_rfl) rfl (fun K' hK => ?_)
      go_simp
      go_at_call 104
      refine (HCL.out _).mono ?_
      rintro e w2 ⟨rfl, hb2⟩
      have hb2' : Below wq.heap.size wq w2 := (Below.refl wq.heap.size wq).drew.trans hb2
      have HO2 := hide (HOq.out.next hb2')
      have HR2 := hide (HRq.out.next hb2')
      have HB2 := hide (HBq.out.trans (hb2'.mono HBq.out.size))
      have HX2 := hide (heap_next HBX.out hb2')
      clear hb2 hb2' HOq HRq HBq
      refine hK.out _ _ (by (try dsimp only); exact row4 HX2.out) (fun hS' => ?_)
      clear hK K'
      try simp only [Act.put, List.setIfInBounds_toArray, List.set_cons_zero, List.set_cons_succ]
      refine tail_take2 8 rfl (by kernel_rfl) (by kernel_rfl) (by kernel_rfl) (by decide) (fun _ _ _ h => h) (by rfl) (v := ?_) ?_ (by assumption) ?_
      rotate_left 1
      · intro w' hS'; obtain ⟨c0, c1, c2, c3⟩ := hS'; go_simp; try with_reducible rfl
      try simp only [Act.put, List.setIfInBounds_toArray, List.set_cons_zero, List.set_cons_succ]
      refine tail_call 9 rfl (by kernel_rfl) rfl (fun K' hK => ?_)
      go_simp
      refine hK.out _ _ (by (try dsimp only); exact row4 (row_keep4 HX2.out _)) (fun hS' => ?_)
      clear hK K'
      try simp only [Act.put, List.setIfInBounds_toArray, List.set_cons_zero, List.set_cons_succ]
      refine tail_call 10 rfl (by kernel_rfl) rfl (fun K' hK => ?_)
      refine wp_appSeg w2 (.tmp 27) (.tmp 36) rfl rfl HO2.out _ _ HF.out rfl (by omega) HB2.out.size (fun v' w' h1 h2 => ?_)
      have HO3 := hide h1
      have hap := apartS HR2.out (by decide) HO2.out
      have hapx : some wr.heap.size ≠ v.ownBlock := by
        rcases hv : v.ownBlock with _ | g
        · simp
        · intro e
          simp only [Option.some.injEq] at e
          subst e
          rcases HO2.out.2 with ⟨rfl, _⟩ | ⟨g', cap, cur, rfl, _, hg, _⟩
          · simp [Value.ownBlock] at hv
          · simp only [Value.ownBlock, Option.some.injEq] at hv
            subst hv
            rw [HX2.out] at hg; cases hg
      have HR3 := hide (HR2.out.grown h2 (Ne.symm hap))
      have HB3 := hide (HB2.out.grown h2 HB2.out.size (fun g hg => ((World.ownsRow.lt HO2.out) g hg).1))
      have HX3 := hide (show w'.heap[wr.heap.size]? = _ from (h2.block _ (Array.getElem?_eq_some_iff.1 HX2.out).1 hapx).trans HX2.out)
      clear h1 h2 hap hapx
      refine hK.out _ _ (by (try dsimp only); exact row4 HX3.out) (fun hS' => ?_)
      clear hK K'
      try simp only [Act.put, List.setIfInBounds_toArray, List.set_cons_zero, List.set_cons_succ]
      refine tail_take2 11 rfl (by kernel_rfl) (by kernel_rfl) (by kernel_rfl) (by decide) (fun _ _ _ h => h) (by rfl) (v := ?_) ?_ (by assumption) ?_
      rotate_left 1
      · intro w' hS'; obtain ⟨c0, c1, c2, c3⟩ := hS'; go_simp; try with_reducible rfl
      try simp only [Act.put, List.setIfInBounds_toArray, List.set_cons_zero, List.set_cons_succ]
      refine tail_end (by kernel_rfl) ?_
      clear hS'
      obtain ⟨e0, e1, e2, e3⟩ := row4 HX3.out
      go_wp2_with fail
      go_roundw
      case rel => exact ⟨k + 1, p + sz, _, by omega, HP2, HP3.out, rfl, HE2, HO3.out, HR3.out, HB3.out⟩
      case measure => exact HMS.out
    · have hkn : k = sgN s := by
        rcases Nat.lt_or_ge k (sgN s) with h | h
        · exact absurd ((pos_ltS s hk).2 h) (by rw [← HP.out]; exact hlt)
        · omega
      obtain ⟨A, c, hv, hc1, hc2⟩ := HO.out.form0
      subst hv
      have HF := hide (show BestPost s w (.returned (.slice A k c)) wr from ⟨A, c, by rw [hkn], by omega, hc2, by have h := HO.out; rw [hkn] at h; exact h, HB.out⟩)
      have e0 : r = ⟨#[]⟩ := by
        obtain ⟨d⟩ := r
        have : d.size = 0 := by have h : (ByteArray.mk d).size = d.size := rfl; omega
        rw [Array.eq_empty_of_size_eq_zero this]
      clear hkn HRE hrs
      subst e0
      go_wp2_with fail
      go_ret
      exact HF.out
end Go.Proofs.Ytdccofbfdlebgaa
