/-
  The model's draws of a family's size and of a level.
  The model's draw of a family, a size and a level.
  What draws share: what stays while a source's block changes; slices of bytes.
  The model's draws of texts, of a mode and a byte, and of a text for NarrowestMode: anything may come, within bounds.
  The model's draw of a message of parts in several modes: anything may come, within bounds.
  The model's draw of a family, a level and a message.
  Condition: as each statement says.
-/
import Derived.Test.YtncgeoliboidhaaGreatFmDraw2
import Derived.Test.YtncgeoliboidhaaGreatDraw
import Derived.Test.YtncgeoliboidhaaGreatVA
import Derived.Test.YtncgeoliboidhaaGreatVO
import Derived.Test.YtncgeoliboidhaaGreatTail2
import Derived.Test.YtncgeoliboidhaaGreatLawKit
namespace Go.Proofs.YtncgeoliboidhaaGreat
open Go.RowKit
set_option linter.unusedSimpArgs false
set_option linter.unusedVariables false

/-- A number is drawn, whatever it is. -/
def DrawnI (g Bc : Nat) (A : Option Addr) (n c : Nat) (code : List Int) (w : World) (x : Ending) (w' : World) : Prop := ∃ y : Int, x = .returned (.int .i64 y) ∧ Src w' g Bc A n c code ∧ w.grownBy w' (some g)

set_option maxRecDepth 100000 in
set_option maxHeartbeats 16000000 in
theorem drawLevel (g Bc : Nat) (Ac : Option Addr) (nc cc : Nat) (code : List Int) (s : ByteArray) (κ p k γ : Int) (A : Option Addr) (n c : Nat) (C : Int) (A' : Option Addr) (n' c' : Nat) (w : World) (hS : Src w g Bc Ac nc cc code) (hn8 : n' ≤ 8) :
    Calls Tryz.prog 19 #[.pointer (some ⟨g, 0, none⟩), .agg #[.string s, .int .i64 κ, .int .i64 p, .int .i64 k, .int .i64 γ, .slice A n c, .int .i64 C, .slice A' n' c']] w (DrawnI g Bc Ac nc cc code w) := by
  have HN := hide hn8
  clear hn8
  have HGL := hide hS.lt
  obtain ⟨w1, hw1⟩ : ∃ w1, w.alloc (.cells #[.string s, .int .i64 κ, .int .i64 p, .int .i64 k, .int .i64 γ, .slice A n c, .int .i64 C, .slice A' n' c'] 28) = w1 := ⟨_, rfl⟩
  have hb1 : Below w.heap.size w w1 := by rw [← hw1]; exact (Below.refl _ _).alloc (Nat.le_refl _) _
  have HF1 := hide (show w1.heap[w.heap.size]? = some (.cells #[.string s, .int .i64 κ, .int .i64 p, .int .i64 k, .int .i64 γ, .slice A n c, .int .i64 C, .slice A' n' c'] 28 (0, 0)) by rw [← hw1]; exact heap_alloc_new _ _)
  have HS1 := hide (hS.below hb1 hS.lt)
  have HG1 := hide (show w.grownBy w1 (some g) from grown_of hb1 (Nat.le_refl _))
  have HNX := hide (fun m w' (hS : Src w' g Bc Ac nc cc code) (hm : m ≤ 4611686018427387904) => next_any g Bc Ac nc cc code m w' hS hm)
  clear hS hb1
  obtain ⟨⟨t0, t1, t2, t3, t4, t5, t6, t7⟩, _⟩ := row8 HF1.out
  go_enter Tryz.func19, Tryz.ntmps19
  go_wp2_with fail
  clear hw1
  clear t0 t1 t2 t3 t4 t5 t6 t7
  refine (HNX.out 20 _ HS1.out (by decide)).mono ?_
  rintro e w2 ⟨z, rfl, hz0, hz1, hSb, hgb⟩
  have HF2 := hide (row_grownF HF1.out hgb (by have := HGL.out; omega))
  have HG2 := hide (grown_one HG1.out hgb)
  have HS2 := hide hSb
  clear hSb hgb
  by_cases hz : z = 0
  · subst hz
    clear hz0 hz1
    have hbd := (Below.refl w2.heap.size w2).drew
    have HFd := hide (heap_nextG HF2.out hbd)
    have HSd := hide (HS2.out.below hbd HS2.out.lt)
    have HGd := hide (grown_blw HG2.out hbd HG2.out.size)
    clear hbd
    obtain ⟨⟨t0, t1, t2, t3, t4, t5, t6, t7⟩, _⟩ := row8 HF2.out
    go_wp2_with fail
    clear t0 t1 t2 t3 t4 t5 t6 t7
    refine tail_begin (fun w' => w'.cell? ⟨w.heap.size, 7, none⟩ = some (.slice A' n' c')) 8 (by kernel_rfl) (row8 HFd.out).1.2.2.2.2.2.2.2 (fun hS' => ?_)
    obtain ⟨wd, hwd⟩ : ∃ q, w2.drew = q := ⟨_, rfl⟩
    rw [hwd] at hS' HFd HSd HGd ⊢
    clear hwd
    refine tail_take 0 rfl (by kernel_rfl) (by kernel_rfl) (by kernel_rfl) (by kernel_rfl) (fun _ _ _ h => h) (by rfl) (v := ?_) ?_ (by assumption) ?_
    rotate_left 1
    · intro w' hS'; (try dsimp only at hS'); go_simp; try with_reducible rfl
    try simp only [Act.put, List.setIfInBounds_toArray, List.set_cons_zero, List.set_cons_succ]
    refine tail_take 1 rfl (by kernel_rfl) (by kernel_rfl) (by kernel_rfl) (by kernel_rfl) (fun _ _ _ h => h) (by rfl) (v := ?_) ?_ (by assumption) ?_
    rotate_left 1
    · intro w' hS'; (try dsimp only at hS'); go_simp; try with_reducible rfl
    try simp only [Act.put, List.setIfInBounds_toArray, List.set_cons_zero, List.set_cons_succ]
    refine tail_take 2 rfl (by kernel_rfl) (by kernel_rfl) (by kernel_rfl) (by kernel_rfl) (fun _ _ _ h => h) (by rfl) (v := ?_) ?_ (by assumption) ?_
    rotate_left 1
    · intro w' hS'; (try dsimp only at hS'); go_simp; try with_reducible rfl
    try simp only [Act.put, List.setIfInBounds_toArray, List.set_cons_zero, List.set_cons_succ]
    refine tail_take 4 rfl (by kernel_rfl) (by kernel_rfl) (by kernel_rfl) (by kernel_rfl) (fun _ _ _ h => h) (by rfl) (v := ?_) ?_ (by assumption) ?_
    rotate_left 1
    · intro w' hS'; (try dsimp only at hS'); go_simp; try with_reducible rfl
    try simp only [Act.put, List.setIfInBounds_toArray, List.set_cons_zero, List.set_cons_succ]
    refine tail_two 3 5 rfl rfl (by kernel_rfl) rfl rfl (fun K' hK => ?_) (fun K' hK => ?_)
    · go_simp
      have hbz : Below wd.heap.size wd (wd.alloc (.cells #[.int .i64 (-1), .int .i64 (n' : Int)] 2)) := (Below.refl _ _).alloc (Nat.le_refl _) _
      have HFa := hide (heap_nextG HFd.out hbz)
      have HSa := hide (HSd.out.below hbz HSd.out.lt)
      have HGa := hide (grown_blw HGd.out hbz HGd.out.size)
      have HO := hide (heap_alloc_new wd (.cells #[.int .i64 (-1), .int .i64 (n' : Int)] 2))
      obtain ⟨bO, hbO⟩ : ∃ b, wd.heap.size = b := ⟨_, rfl⟩
      have HBO := hide (show g < bO by rw [← hbO]; exact HSd.out.lt)
      refine hK.out _ _ (by (try dsimp only); exact (row8 HFa.out).1.2.2.2.2.2.2.2) (fun hS' => ?_)
      clear hK K'
      try simp only [Act.put, List.setIfInBounds_toArray, List.set_cons_zero, List.set_cons_succ]
      obtain ⟨wa, hwz⟩ : ∃ wz, wd.alloc (.cells #[.int .i64 (-1), .int .i64 (n' : Int)] 2) = wz := ⟨_, rfl⟩
      rw [hwz] at hS' HFa HSa HGa HO ⊢
      rw [hbO] at HO ⊢
      clear hwz hbz hbO
      refine tail_call 5 rfl (by kernel_rfl) rfl (fun K' hK => ?_)
      go_simp
      go_at_call 34; refine (HNX.out 2 _ HSa.out (by decide)).mono ?_; rintro e wb ⟨z, rfl, hz0, hz1, hSb, hgb⟩
      have HFb := hide (row_grownF HFa.out hgb (by have := HGL.out; omega))
      have HGb := hide (grown_one HGa.out hgb)
      have HSb := hide hSb
      have HO' := hide (row_grownF HO.out hgb (by have := HBO.out; omega))
      clear HO
      have HO := HO'
      clear HO'
      clear hgb hSb
      refine hK.out _ _ (by (try dsimp only); exact (row8 HFb.out).1.2.2.2.2.2.2.2) (fun hS' => ?_)
      clear hK K'
      try simp only [Act.put, List.setIfInBounds_toArray, List.set_cons_zero, List.set_cons_succ]
      obtain ⟨i, hi, rfl⟩ : ∃ i : Nat, i < 2 ∧ z = i := ⟨z.toNat, by omega, by omega⟩
      clear hz0 hz1
      obtain rfl | rfl : i = 0 ∨ i = 1 := by omega
      · have hkc := cell_of_row wb bO 0 _ _ _ HO.out
        refine tail_call 6 rfl (by kernel_rfl) rfl (fun K' hK => ?_)
        go_simp
        refine hK.out _ _ (by (try dsimp only); exact (row8 HFb.out).1.2.2.2.2.2.2.2) (fun hS' => ?_)
        clear hK K'
        try simp only [Act.put, List.setIfInBounds_toArray, List.set_cons_zero, List.set_cons_succ]
        refine tail_call 7 rfl (by kernel_rfl) rfl (fun K' hK => ?_)
        go_simp
        refine hK.out _ _ (by (try dsimp only); exact (row8 HFb.out).1.2.2.2.2.2.2.2) (fun hS' => ?_)
        clear hK K'
        try simp only [Act.put, List.setIfInBounds_toArray, List.set_cons_zero, List.set_cons_succ]
        refine tail_last 8 rfl (by kernel_rfl) (by kernel_rfl) rfl rfl (fun K' hK => ?_)
        go_simp
        refine hK.out _ _ ?_
        clear hK K' hS'
        try simp only [Act.put, List.setIfInBounds_toArray, List.set_cons_zero, List.set_cons_succ]
        go_wp2_with fail
        go_ret
        exact ⟨_, rfl, HSb.out, HGb.out⟩
      · have hkc := cell_of_row wb bO 1 _ _ _ HO.out
        refine tail_call 6 rfl (by kernel_rfl) rfl (fun K' hK => ?_)
        go_simp
        refine hK.out _ _ (by (try dsimp only); exact (row8 HFb.out).1.2.2.2.2.2.2.2) (fun hS' => ?_)
        clear hK K'
        try simp only [Act.put, List.setIfInBounds_toArray, List.set_cons_zero, List.set_cons_succ]
        refine tail_call 7 rfl (by kernel_rfl) rfl (fun K' hK => ?_)
        go_simp
        refine hK.out _ _ (by (try dsimp only); exact (row8 HFb.out).1.2.2.2.2.2.2.2) (fun hS' => ?_)
        clear hK K'
        try simp only [Act.put, List.setIfInBounds_toArray, List.set_cons_zero, List.set_cons_succ]
        refine tail_last 8 rfl (by kernel_rfl) (by kernel_rfl) rfl rfl (fun K' hK => ?_)
        go_simp
        refine hK.out _ _ ?_
        clear hK K' hS'
        try simp only [Act.put, List.setIfInBounds_toArray, List.set_cons_zero, List.set_cons_succ]
        go_wp2_with fail
        go_ret
        exact ⟨_, rfl, HSb.out, HGb.out⟩
    · go_simp
      go_at_call 34; refine (HNX.out 2 _ HSd.out (by decide)).mono ?_; rintro e wa ⟨z, rfl, hz0, hz1, hSb, hgb⟩
      have HFa := hide (row_grownF HFd.out hgb (by have := HGL.out; omega))
      have HGa := hide (grown_one HGd.out hgb)
      have HSa := hide hSb
      clear hgb hSb
      refine hK.out _ _ (by (try dsimp only); exact (row8 HFa.out).1.2.2.2.2.2.2.2) (fun hS' => ?_)
      clear hK K'
      try simp only [Act.put, List.setIfInBounds_toArray, List.set_cons_zero, List.set_cons_succ]
      refine tail_call 3 rfl (by kernel_rfl) rfl (fun K' hK => ?_)
      go_simp
      have hbz : Below wa.heap.size wa (wa.alloc (.cells #[.int .i64 (-1), .int .i64 (n' : Int)] 2)) := (Below.refl _ _).alloc (Nat.le_refl _) _
      have HFb := hide (heap_nextG HFa.out hbz)
      have HSb := hide (HSa.out.below hbz HSa.out.lt)
      have HGb := hide (grown_blw HGa.out hbz HGa.out.size)
      have HO := hide (heap_alloc_new wa (.cells #[.int .i64 (-1), .int .i64 (n' : Int)] 2))
      obtain ⟨bO, hbO⟩ : ∃ b, wa.heap.size = b := ⟨_, rfl⟩
      have HBO := hide (show g < bO by rw [← hbO]; exact HSa.out.lt)
      refine hK.out _ _ (by (try dsimp only); exact (row8 HFb.out).1.2.2.2.2.2.2.2) (fun hS' => ?_)
      clear hK K'
      try simp only [Act.put, List.setIfInBounds_toArray, List.set_cons_zero, List.set_cons_succ]
      obtain ⟨wb, hwz⟩ : ∃ wz, wa.alloc (.cells #[.int .i64 (-1), .int .i64 (n' : Int)] 2) = wz := ⟨_, rfl⟩
      rw [hwz] at hS' HFb HSb HGb HO ⊢
      rw [hbO] at HO ⊢
      clear hwz hbz hbO
      obtain ⟨i, hi, rfl⟩ : ∃ i : Nat, i < 2 ∧ z = i := ⟨z.toNat, by omega, by omega⟩
      clear hz0 hz1
      obtain rfl | rfl : i = 0 ∨ i = 1 := by omega
      · have hkc := cell_of_row wb bO 0 _ _ _ HO.out
        refine tail_call 6 rfl (by kernel_rfl) rfl (fun K' hK => ?_)
        go_simp
        refine hK.out _ _ (by (try dsimp only); exact (row8 HFb.out).1.2.2.2.2.2.2.2) (fun hS' => ?_)
        clear hK K'
        try simp only [Act.put, List.setIfInBounds_toArray, List.set_cons_zero, List.set_cons_succ]
        refine tail_call 7 rfl (by kernel_rfl) rfl (fun K' hK => ?_)
        go_simp
        refine hK.out _ _ (by (try dsimp only); exact (row8 HFb.out).1.2.2.2.2.2.2.2) (fun hS' => ?_)
        clear hK K'
        try simp only [Act.put, List.setIfInBounds_toArray, List.set_cons_zero, List.set_cons_succ]
        refine tail_last 8 rfl (by kernel_rfl) (by kernel_rfl) rfl rfl (fun K' hK => ?_)
        go_simp
        refine hK.out _ _ ?_
        clear hK K' hS'
        try simp only [Act.put, List.setIfInBounds_toArray, List.set_cons_zero, List.set_cons_succ]
        go_wp2_with fail
        go_ret
        exact ⟨_, rfl, HSb.out, HGb.out⟩
      · have hkc := cell_of_row wb bO 1 _ _ _ HO.out
        refine tail_call 6 rfl (by kernel_rfl) rfl (fun K' hK => ?_)
        go_simp
        refine hK.out _ _ (by (try dsimp only); exact (row8 HFb.out).1.2.2.2.2.2.2.2) (fun hS' => ?_)
        clear hK K'
        try simp only [Act.put, List.setIfInBounds_toArray, List.set_cons_zero, List.set_cons_succ]
        refine tail_call 7 rfl (by kernel_rfl) rfl (fun K' hK => ?_)
        go_simp
        refine hK.out _ _ (by (try dsimp only); exact (row8 HFb.out).1.2.2.2.2.2.2.2) (fun hS' => ?_)
        clear hK K'
        try simp only [Act.put, List.setIfInBounds_toArray, List.set_cons_zero, List.set_cons_succ]
        refine tail_last 8 rfl (by kernel_rfl) (by kernel_rfl) rfl rfl (fun K' hK => ?_)
        go_simp
        refine hK.out _ _ ?_
        clear hK K' hS'
        try simp only [Act.put, List.setIfInBounds_toArray, List.set_cons_zero, List.set_cons_succ]
        go_wp2_with fail
        go_ret
        exact ⟨_, rfl, HSb.out, HGb.out⟩
  have hzz : (z == 0) = false := by simpa using hz
  clear hz0 hz1 hz
  obtain ⟨⟨t0, t1, t2, t3, t4, t5, t6, t7⟩, _⟩ := row8 HF2.out
  go_wp2_with fail
  clear t0 t1 t2 t3 t4 t5 t6 t7
  clear hzz
  refine (HNX.out n' _ HS2.out (by have := HN.out; omega)).mono ?_
  rintro e w3 ⟨z, rfl, hz0, hz1, hSb, hgb⟩
  have HF3 := hide (row_grownF HF2.out hgb (by have := HGL.out; omega))
  have HG3 := hide (grown_one HG2.out hgb)
  have HS3 := hide hSb
  clear hSb hgb
  go_wp2_with fail
  go_ret
  exact ⟨_, rfl, HS3.out, HG3.out⟩
end Go.Proofs.YtncgeoliboidhaaGreat

namespace Go.Proofs.YtncgeoliboidhaaGreat
open Go.RowKit
set_option linter.unusedSimpArgs false
set_option linter.unusedVariables false

theorem below_set8 {B : Nat} {a w : World} (h : Below B a w) {N : Nat} (hN : B ≤ N) (x0 x1 x2 x3 x4 x5 x6 x7 : Value) : Below B a (set8F w N x0 x1 x2 x3 x4 x5 x6 x7) :=
  (((((((h.setCell hN _).setCell hN _).setCell hN _).setCell hN _).setCell hN _).setCell hN _).setCell hN _).setCell hN _
theorem src_set8 {w : World} {g Bc b : Nat} {A : Option Addr} {n c : Nat} {code : List Int} (h : Src w g Bc A n c code) (hb : b < g) (hBc : Bc ≤ b) (x0 x1 x2 x3 x4 x5 x6 x7 : Value) : Src (set8F w b x0 x1 x2 x3 x4 x5 x6 x7) g Bc A n c code := by
  obtain ⟨h1, h2, h3, h4, p, sd, h5, h6, h7, h8⟩ := h
  exact ⟨h1.below (below_set8 (Below.refl Bc w) hBc x0 x1 x2 x3 x4 x5 x6 x7), h2, h3, h4, p, sd, h5, h6, h7, row8_other h8 (by omega) x0 x1 x2 x3 x4 x5 x6 x7⟩
/-- What the draw leaves. -/
def DrawnLO (w : World) (x : Ending) (w' : World) : Prop :=
  ∃ (s : ByteArray) (κ p k γ : Int) (P : Option Addr) (l lc : Nat) (C : Int) (P' : Option Addr) (l' lc' : Nat) (zs ls : List Int) (z lv : Int), x = .returned (.tuple #[.agg #[.string s, .int .i64 κ, .int .i64 p, .int .i64 k, .int .i64 γ, .slice P l lc, .int .i64 C, .slice P' l' lc'], .int .i64 z, .int .i64 lv]) ∧ s.size ≤ 9 ∧ FixI w' w.heap.size P l zs ∧ FixI w' w.heap.size P' l' ls ∧ Below w.heap.size w w'
end Go.Proofs.YtncgeoliboidhaaGreat

namespace Go.Proofs.YtncgeoliboidhaaGreat
open Go.RowKit

theorem info8 : (Tryz.prog.info? 5).map (fun i => (i.zero, i.size, i.bytes)) = some (some (.int .u8 0), 1, 1) := by kernel_rfl
theorem elem8 : IsElem Tryz.prog 22 5 .u8 1 := ⟨Tryz.underlying22, info8, by omega⟩

theorem grown_more {a b c : World} {row row2 : Option Nat} (h : a.grownBy b row) (k : b.grownBy c row2) (hr : ∀ r, row2 = some r → a.heap.size ≤ r) : a.grownBy c row :=
  ⟨k.os.trans h.os, k.tape.trans h.tape, k.output.trans h.output, Nat.le_trans h.size k.size, fun i hi hne => (k.block i (Nat.lt_of_lt_of_le hi h.size) (fun e => by have := hr i e.symm; omega)).trans (h.block i hi hne)⟩
theorem grown_below {a b c : World} {row : Option Nat} (h : a.grownBy b row) (k : Below a.heap.size b c) : a.grownBy c row :=
  ⟨k.os.trans h.os, k.tape.trans h.tape, k.output.trans h.output, Nat.le_trans h.size k.size, fun i hi hne => (k.block i hi).trans (h.block i hi hne)⟩

def DrawRel (g Bc : Nat) (A : Option Addr) (n c : Nat) (code : List Int) (e : TypeId) (k : IntKind) (most : Int) (lo hi : Int) (w : World) (v i : Value) (wr : World) : Prop :=
  ∃ (zs : List Int) (t : Int), i = .int .i64 t ∧ 0 ≤ t ∧ (zs.length : Int) + t ≤ most ∧ (∀ y ∈ zs, lo ≤ y ∧ y ≤ hi) ∧ Own wr w.heap.size e k v zs ∧ Src wr g Bc A n c code ∧ w.grownBy wr (some g)

theorem own_src {w wr : World} {g : Nat} {e : TypeId} {k : IntKind} {v : Value} {zs : List Int} (hO : Own wr w.heap.size e k v zs) (hg : g < w.heap.size) : v.ownBlock = none ∨ v.ownBlock ≠ some g := by
  rcases hv : v.ownBlock with _ | r
  · exact .inl rfl
  · exact .inr (fun h => by have := hO.lt hv; injection h; omega)

theorem Own.base_le {w : World} {base base' : Nat} {e : TypeId} {k : IntKind} {v : Value} {zs : List Int} (h : Own w base e k v zs) (hb : base' ≤ base) : Own w base' e k v zs := by
  refine ⟨h.1, ?_⟩
  rcases h.2 with h0 | ⟨g, cap, cur, hv, hg, rest⟩
  · exact .inl h0
  · exact .inr ⟨g, cap, cur, hv, by omega, rest⟩

theorem strOf_size (ns : List Int) : (strOf ns).size = ns.length := by
  have h : ∀ (l : List Int) (b : ByteArray), (l.foldl (fun r n => r.push (UInt8.ofNat n.toNat)) b).size = b.size + l.length := by
    intro l
    induction l with
    | nil => intro b; rfl
    | cons a l ih => intro b; rw [List.foldl_cons, ih]; simp [ByteArray.size_push]; omega
  unfold strOf; rw [h]; simp

end Go.Proofs.YtncgeoliboidhaaGreat

namespace Go.Proofs.YtncgeoliboidhaaGreat
open Go.RowKit
set_option linter.unusedSimpArgs false
set_option linter.unusedVariables false

/-- What a draw of a text leaves. -/
def DrawnT (g Bc : Nat) (A : Option Addr) (n c : Nat) (code : List Int) (w : World) (x : Ending) (w' : World) : Prop :=
  ∃ s : ByteArray, x = .returned (.string s) ∧ s.size ≤ 1001 ∧ Src w' g Bc A n c code ∧ w.grownBy w' (some g)

set_option maxRecDepth 100000 in
set_option maxHeartbeats 2000000 in
theorem drawText (g Bc : Nat) (A : Option Addr) (n c : Nat) (code : List Int) (mode most : Int) (w : World) (hS : Src w g Bc A n c code) (hmo : 1 ≤ mode ∧ mode ≤ 4) (hm0 : 0 ≤ most) (hm1 : most ≤ 1000) :
    Calls Tryz.prog 55 #[.pointer (some ⟨g, 0, none⟩), .int .i64 mode, .int .i64 most] w (DrawnT g Bc A n c code w) := by
  have HS := hide hS
  have hg := hS.lt
  clear hS
  go_enter Tryz.func55, Tryz.ntmps55
  go_wp2_with fail
  refine (next_any g Bc A n c code _ _ (HS.out.still (World.grownBy_alloc w _ none) (by simp)) (by omega)).mono ?_
  rintro e w1 ⟨y, rfl, hy0, hy1, hs1, hg1⟩
  have HS1 := hide hs1
  have HG1 := hide (grown_trans (World.grownBy_alloc w _ (some g)) hg1)
  have HO1 := hide ((Own.lit0 w 5 .u8).grown hg1 (own_src (w := w) (Own.lit0 w 5 .u8) hg))
  clear hs1 hg1
  go_wp2_with fail
  go_loopw [7, 8] (fun v i wr => DrawRel g Bc A n c code 5 .u8 1001 0 255 w v i wr) (fun _ i _ => (intOf i).toNat)
  case atStart => exact ⟨[], y, rfl, hy0, by simp; omega, by simp, HO1, HS1, HG1⟩
  case round =>
    clear HO1 HS1 HG1
    obtain ⟨v, hvv⟩ : ∃ v : Value, v = u7 := ⟨_, rfl⟩
    subst hvv
    obtain ⟨zs, t, rfl, ht0, ht1, hzs, hOwn, hSrc, hgr⟩ := hrel
    have HZ := hide hzs
    have HO := hide hOwn
    have HSr := hide hSrc
    have HG := hide hgr
    clear hzs hOwn hSrc hgr
    have hbz : w.heap.size ≤ wr.heap.size := HG.out.size
    by_cases hpos : 0 < t
    · by_cases h4 : mode = 4
      · have e4 : (mode == 4) = true := by simpa using h4
        clear h4
        go_wp2_with fail
        refine (next_any g Bc A n c code 256 wr HSr (by omega)).mono ?_
        rintro e w2 ⟨x, rfl, hx0, hx1, hs2, hg2⟩
        have HS2 := hide hs2
        have HG2 := hide hg2
        have HO2 := hide (HO.out.grown hg2 (own_src HO.out hg))
        have hbz2 : w.heap.size ≤ w2.heap.size := Nat.le_trans hbz hg2.size
        have hx2 : x ≤ 255 := by omega
        have hwx : IntKind.u8.wrap x = x := by rw [IntKind.wrap_u8]; omega
        clear hs2 hg2
        go_wp2_with (at_builtin; refine wpList_app1 w2 rfl _ _ _ rfl elem8 w.heap.size v _ rfl HO2.out x rfl (by omega) hbz2 ?_; intro v3 w3 hown3 hgr3)
        have HO3 := hide hown3
        have HG3 := hide (grown_more (grown_trans HG.out HG2.out) hgr3 (fun r hr => (HO2.out.lt hr).1))
        have HS3 := hide (HS2.out.still hgr3 (fun r hr => by have := (HO2.out.lt hr).1; omega))
        clear hown3 hgr3
        go_wp2_with fail
        go_roundw
        case rel =>
          refine ⟨zs ++ [x], t - 1, by go_num, by omega, by simp; omega, ?_, HO3, HS3, HG3⟩
          intro q hq
          rcases List.mem_append.1 hq with h | h
          · exact HZ.out q h
          · simp at h; subst h; omega
        case measure => simp [intOf]; omega
      · have e4 : (mode == 4) = false := by simpa using h4
        have hm3 : mode = 1 ∨ mode = 2 ∨ mode = 3 := by omega
        have hgs := stS_size hm3
        have hgl : 10 ≤ gbase mode ∧ gbase mode ≤ 45 := by rcases hm3 with rfl | rfl | rfl <;> decide
        have HSET := hide (specSet mode)
        obtain ⟨st, hst⟩ : ∃ st, stS mode = st := ⟨_, rfl⟩
        rw [hst] at hgs HSET
        rw [← hgs] at hgl
        clear hgs hst hm3 h4
        go_wp2_with fail
        refine (HSET.out _).mono ?_
        rintro e wz ⟨rfl, hwz⟩
        rw [hwz]
        clear hwz
        go_wp2_with fail
        refine (next_any g Bc A n c code (st.size : Nat) wr HSr (by omega)).mono ?_
        rintro e w2 ⟨x, rfl, hx0, hx1, hs2, hg2⟩
        obtain ⟨x, rfl⟩ : ∃ q : Nat, x = q := ⟨x.toNat, by omega⟩
        have HS2 := hide hs2
        have HG2 := hide hg2
        have HO2 := hide (HO.out.grown hg2 (own_src HO.out hg))
        have hbz2 : w.heap.size ≤ w2.heap.size := Nat.le_trans hbz hg2.size
        have hx2 : x < st.size := by omega
        obtain ⟨q, hq, _, hq0, hq1⟩ := byteAt st hx2
        clear hs2 hg2 hx1
        go_wp2_with (at_builtin; refine wpList_app1 w2 rfl _ _ _ rfl elem8 w.heap.size v _ rfl HO2.out q rfl (by omega) hbz2 ?_; intro v3 w3 hown3 hgr3)
        have HO3 := hide hown3
        have HG3 := hide (grown_more (grown_trans HG.out HG2.out) hgr3 (fun r hr => (HO2.out.lt hr).1))
        have HS3 := hide (HS2.out.still hgr3 (fun r hr => by have := (HO2.out.lt hr).1; omega))
        clear hown3 hgr3
        go_wp2_with fail
        go_roundw
        case rel =>
          refine ⟨zs ++ [q], t - 1, by go_num, by omega, by simp; omega, ?_, HO3, HS3, HG3⟩
          intro q' hq'
          rcases List.mem_append.1 hq' with h | h
          · exact HZ.out q' h
          · simp at h; subst h; omega
        case measure => simp [intOf]; omega
    · obtain ⟨A1, c1, rfl, hc1⟩ := HO.out.form
      have hconv := run_str wr elem8 Tryz.underlying5 Tryz.underlying9 c1 HO.out.ints
      clear hc1
      go_wp2_with fail
      go_ret
      exact ⟨strOf zs, rfl, by rw [strOf_size]; omega, HSr, HG⟩

/-- In a draw that has made its source in the first new block. -/
def Dn (w : World) (A : Option Addr) (n c : Nat) (code : List Int) (W : World) : Prop := Src W w.heap.size w.heap.size A n c code ∧ Below w.heap.size w W
theorem dn_below {w : World} {A : Option Addr} {n c : Nat} {code : List Int} {W W' : World} (h : Dn w A n c code W) (hg : W.grownBy W' (some w.heap.size)) : Below w.heap.size w W' :=
  h.2.grown hg h.2.size (fun r hr => by cases hr; exact Nat.le_refl _)
theorem dn_alloc {w : World} {A : Option Addr} {n c : Nat} {code : List Int} {W : World} (h : Dn w A n c code W) (o : Obj) : Dn w A n c code (W.alloc o) :=
  ⟨h.1.still (World.grownBy_alloc W o none) (by simp), h.2.alloc h.2.size o⟩
theorem dn_drew {w : World} {A : Option Addr} {n c : Nat} {code : List Int} {W : World} (h : Dn w A n c code W) : Dn w A n c code W.drew := ⟨h.1, h.2.drew⟩
theorem four_cells {W : World} {b : Nat} (h : W.heap[b]? = some (.cells #[.int .i64 (-1), .int .i64 0, .int .i64 255, .int .i64 256] 2 (0, 0))) (y : Nat) (hy : y < 4) : ∃ v : Int, W.cell? ⟨b, y, none⟩ = some (.int .i64 v) ∧ -1 ≤ v ∧ v ≤ 256 := by
  have h4 : y = 0 ∨ y = 1 ∨ y = 2 ∨ y = 3 := by omega
  rcases h4 with rfl | rfl | rfl | rfl
  · exact ⟨-1, cell_of_row W b 0 _ _ _ h, by omega, by omega⟩
  · exact ⟨0, cell_of_row W b 1 _ _ _ h, by omega, by omega⟩
  · exact ⟨255, cell_of_row W b 2 _ _ _ h, by omega, by omega⟩
  · exact ⟨256, cell_of_row W b 3 _ _ _ h, by omega, by omega⟩

end Go.Proofs.YtncgeoliboidhaaGreat

namespace Go.Proofs.YtncgeoliboidhaaGreat
open Go.RowKit
set_option linter.unusedSimpArgs false
set_option linter.unusedVariables false

/-- What a draw of a message leaves. -/
def DrawnM (g Bc : Nat) (A : Option Addr) (n c : Nat) (code : List Int) (w : World) (x : Ending) (w' : World) : Prop :=
  ∃ s : ByteArray, x = .returned (.string s) ∧ s.size ≤ 4004 ∧ Src w' g Bc A n c code ∧ w.grownBy w' (some g)
def SwRel (g Bc : Nat) (A : Option Addr) (n c : Nat) (code : List Int) (w : World) (v i : Value) (wr : World) : Prop :=
  ∃ (s : ByteArray) (t : Int), v = .string s ∧ i = .int .i64 t ∧ 0 ≤ t ∧ t ≤ 3 ∧ (s.size : Int) ≤ 1001 * (3 - t) ∧ Src wr g Bc A n c code ∧ w.grownBy wr (some g)
def SevRel (v : Value) (w wr : World) : Prop := ∃ s : ByteArray, v = .string s ∧ s.size ≤ 260 ∧ wr = w

set_option maxRecDepth 100000 in
set_option maxHeartbeats 2000000 in
theorem drawMsg (g Bc : Nat) (A : Option Addr) (n c : Nat) (code : List Int) (w : World) (hS : Src w g Bc A n c code) :
    Calls Tryz.prog 20 #[.pointer (some ⟨g, 0, none⟩)] w (DrawnM g Bc A n c code w) := by
  have HS := hide hS
  have hg := hS.lt
  clear hS
  go_enter Tryz.func20, Tryz.ntmps20
  go_wp2_with fail
  refine (next_any g Bc A n c code 4 _ HS.out (by omega)).mono ?_
  rintro e w1 ⟨y, rfl, hy0, hy1, hs1, hg1⟩
  have HS1 := hide hs1
  have HG1 := hide hg1
  clear hs1 hg1
  go_wp2_with fail
  go_loopw [3, 4] (fun v i wr => SwRel g Bc A n c code w v i wr) (fun _ i _ => (intOf i).toNat)
  case atStart => exact ⟨⟨#[]⟩, y, rfl, rfl, hy0, by omega, by show ((0 : Nat) : Int) ≤ _; omega, HS1.out, HG1.out⟩
  case round =>
    clear HS1 HG1
    obtain ⟨s, t, hv, rfl, ht0, ht3, hz, hs, hgr⟩ := hrel
    subst hv
    have HSr := hide hs
    have HG := hide hgr
    clear hs hgr
    by_cases hpos : 0 < t
    · go_wp2_with fail
      refine (next_any g Bc A n c code 4 wr HSr.out (by omega)).mono ?_
      rintro e w2 ⟨x, rfl, hx0, hx1, hs2, hg2⟩
      have HS2 := hide hs2
      have HG2 := hide (grown_trans HG.out hg2)
      have hwx : IntKind.i64.wrap (1 + x) = 1 + x := IntWalk.i64_in _ ⟨by omega, by omega⟩
      clear hs2 hg2
      go_wp2_with fail
      refine (drawText g Bc A n c code (1 + x) 10 w2 HS2.out (by omega) (by omega) (by omega)).mono ?_
      rintro e w3 ⟨q, rfl, hq, hs3, hg3⟩
      have HS3 := hide hs3
      have HG3 := hide (grown_trans HG2.out hg3)
      have HSZ := hide (show (((s ++ q).size : Nat) : Int) ≤ 1001 * (3 - (t - 1)) by rw [ByteArray.size_append]; omega)
      have hwt : IntKind.i64.wrap (t - 1) = t - 1 := IntWalk.i64_in _ ⟨by omega, by omega⟩
      clear hs3 hg3
      go_wp2_with fail
      go_roundw
      case rel => exact ⟨s ++ q, t - 1, rfl, rfl, by omega, by omega, HSZ.out, HS3.out, HG3.out⟩
      case measure => simp [intOf]; omega
    · obtain rfl : t = 0 := by omega
      go_wp2_with fail
      refine (next_any g Bc A n c code 60 wr HSr.out (by omega)).mono ?_
      rintro e w2 ⟨x, rfl, hx0, hx1, hs2, hg2⟩
      have HS2 := hide hs2
      have HG2 := hide (grown_trans HG.out hg2)
      clear hs2 hg2
      by_cases e0 : x = 0
      · have ez : (x == 0) = true := by simpa using e0
        clear e0
        go_wp2_with fail
        refine (next_any g Bc A n c code 2 w2 HS2.out (by omega)).mono ?_
        rintro e w3 ⟨z, rfl, hz0, hz1, hs3, hg3⟩
        obtain ⟨z, rfl⟩ : ∃ q : Nat, z = q := ⟨z.toNat, by omega⟩
        have HS3 := hide hs3
        have HG3 := hide (grown_trans HG2.out hg3)
        have hwz : IntKind.i64.wrap (400 + (z : Int)) = ((400 + z : Nat) : Int) := by rw [IntWalk.i64_in _ ⟨by omega, by omega⟩]; omega
        obtain ⟨N, hN⟩ : ∃ N, 400 + z = N := ⟨_, rfl⟩
        rw [hN] at hwz
        have hN4 : N ≤ 402 := by omega
        clear hs3 hg3 hN
        go_wp2_with (at_make; go_loud (refine wpList_mkN _ rfl _ _ _ rfl elem8 .i64 .i64 _ _ N rfl rfl rfl rfl (by omega) ?_; intro w4 hown hbel; have HO4 := hide hown; have HB4 := hide hbel; have hconv := run_str w4 elem8 Tryz.underlying5 Tryz.underlying9 N (hown.ints' (by simp)); clear hown hbel))
        go_ret
        exact ⟨strOf (List.replicate N 0), rfl, by rw [strOf_size]; simp; omega, HS3.out.below HB4.out HS3.out.lt, grown_below HG3.out (HB4.out.mono (Nat.le_trans HG3.out.size (Nat.le_refl _)))⟩
      · have ez : (x == 0) = false := by simpa using e0
        by_cases e1 : x = 1
        · have ey : (x == 1) = true := by simpa using e1
          clear e0 e1
          go_wp2_with fail
          go_loopw [3] (fun v wr' => SevRel v w2 wr') (fun v _ => 260 - (match v with | .string s => s.size | _ => 0))
          case atStart => exact ⟨⟨#[]⟩, rfl, by show 0 ≤ _; omega, rfl⟩
          case round =>
            obtain ⟨q, hv, hq, rfl⟩ := hrel
            subst hv
            by_cases hlt : q.size < 260
            · have HSQ := hide (show (q ++ ⟨#[55]⟩ : ByteArray).size = q.size + 1 by rw [ByteArray.size_append]; rfl)
              go_wp2_with fail
              go_roundw
              case rel => exact ⟨_, rfl, by rw [HSQ.out]; omega, rfl⟩
              case measure => show 260 - (q ++ ⟨#[55]⟩ : ByteArray).size < 260 - q.size; rw [HSQ.out]; omega
            · go_wp2_with fail
              go_ret
              exact ⟨q, rfl, by omega, HS2.out, HG2.out⟩
        · have ey : (x == 1) = false := by simpa using e1
          clear e0 e1
          go_wp2_with fail
          go_ret
          exact ⟨s, rfl, by omega, HS2.out, HG2.out⟩
end Go.Proofs.YtncgeoliboidhaaGreat

namespace Go.Proofs.YtncgeoliboidhaaGreat
open Go.RowKit
set_option linter.unusedSimpArgs false
set_option linter.unusedVariables false

/-- What the draw leaves. -/
def DrawnSZ (w : World) (x : Ending) (w' : World) : Prop :=
  ∃ (s : ByteArray) (κ p k γ : Int) (P : Option Addr) (l lc : Nat) (C : Int) (P' : Option Addr) (l' lc' : Nat) (zs ls : List Int) (lv : Int) (m : ByteArray), x = .returned (.tuple #[.agg #[.string s, .int .i64 κ, .int .i64 p, .int .i64 k, .int .i64 γ, .slice P l lc, .int .i64 C, .slice P' l' lc'], .int .i64 lv, .string m]) ∧ s.size ≤ 9 ∧ m.size ≤ 4096 ∧ FixI w' w.heap.size P l zs ∧ FixI w' w.heap.size P' l' ls ∧ Below w.heap.size w w'
set_option maxRecDepth 100000 in
set_option maxHeartbeats 16000000 in
theorem drawSZ (A : Option Addr) (n c : Nat) (code : List Int) (w : World) (hI : Ints .u8 w w.heap.size A n code) (hn : n ≤ 4096) (hby : ∀ b ∈ code, 0 ≤ b ∧ b ≤ 255) :
    Calls Tryz.prog 6 #[.slice A n c] w (DrawnSZ w) := by
  have HBY := hide hby
  obtain ⟨w0, hw0⟩ : ∃ w0, w.alloc (.cells #[.string ⟨#[]⟩, .int .i64 0, .int .i64 0, .int .i64 0, .int .i64 0, .slice none 0 0, .int .i64 0, .slice none 0 0] 28) = w0 := ⟨_, rfl⟩
  have hb0 : Below w.heap.size w w0 := by rw [← hw0]; exact (Below.refl _ _).alloc (Nat.le_refl _) _
  have HR0 := hide (show w0.heap[w.heap.size]? = some (.cells #[.string ⟨#[]⟩, .int .i64 0, .int .i64 0, .int .i64 0, .int .i64 0, .slice none 0 0, .int .i64 0, .slice none 0 0] 28 (0, 0)) by rw [← hw0]; exact heap_alloc_new _ _)
  have HB0 := hide hb0
  have HI0 := hide (show Ints .u8 w0 w0.heap.size A n code from (hI.below hb0).more hb0.size)
  have HLE := hide (show w.heap.size < w0.heap.size from (Array.getElem?_eq_some_iff.1 HR0.out).1)
  clear hby hb0
  go_enter Tryz.func6, Tryz.ntmps6
  go_wp2_with fail
  refine (from_any A n c code w0 HI0.out hn HBY.out).mono ?_
  rintro e w1 ⟨rfl, hs1, hb1⟩
  have HR1 := hide (heap_nextG HR0.out hb1)
  have HB1 := hide (HB0.out.trans (hb1.mono HB0.out.size))
  have HS1 := hide (show Src w1 w0.heap.size w.heap.size A n c code from ⟨hI.below HB1.out, Nat.le_of_lt HLE.out, hs1.2.2.1, hs1.2.2.2.1, hs1.2.2.2.2⟩)
  clear hs1 hb1 HB0 HR0 HI0 hw0 hI
  obtain ⟨g, hg0⟩ : ∃ g, w0.heap.size = g := ⟨_, rfl⟩
  rw [hg0] at HS1 HLE ⊢
  clear hg0
  go_wp2_with fail
  refine (drawFmAny g w.heap.size A n c code w1 HS1.out).mono ?_
  rintro e w2 ⟨s, κ, p, k, γ, P, l, lc, C, P', l', lc', zs, ls, rfl, hsz, hz, hl, hs2, hg2⟩
  have HR2 := hide (row_grownF HR1.out hg2 (by have := HLE.out; omega))
  have HB2 := hide (HB1.out.grown hg2 HB1.out.size (fun r hr => by cases hr; exact Nat.le_of_lt HLE.out))
  have HS2 := hide hs2
  have HLO := hide (show g < w1.heap.size ∧ w.heap.size < w1.heap.size from ⟨HS1.out.lt, by have := HLE.out; have := HS1.out.lt; omega⟩)
  have HSZ := hide hsz
  have HZ2 := hide hz
  have HL2 := hide hl
  clear hg2 hs2 hsz hz hl HS1 HR1 HB1
  obtain ⟨lo, hlo⟩ : ∃ lo, w1.heap.size = lo := ⟨_, rfl⟩
  rw [hlo] at HLO HZ2 HL2
  clear hlo
  obtain ⟨w3, hw3⟩ : ∃ w3, w2.alloc (.cells #[.string s, .int .i64 κ, .int .i64 p, .int .i64 k, .int .i64 γ, .slice P l lc, .int .i64 C, .slice P' l' lc'] 28) = w3 := ⟨_, rfl⟩
  have hb3 : Below w2.heap.size w2 w3 := by rw [← hw3]; exact (Below.refl _ _).alloc (Nat.le_refl _) _
  have HF3 := hide (show w3.heap[w2.heap.size]? = some (.cells #[.string s, .int .i64 κ, .int .i64 p, .int .i64 k, .int .i64 γ, .slice P l lc, .int .i64 C, .slice P' l' lc'] 28 (0, 0)) by rw [← hw3]; exact heap_alloc_new _ _)
  have HLB := hide (show g < w2.heap.size from HS2.out.lt)
  have HR3 := hide (heap_nextG HR2.out hb3)
  have HS3 := hide (HS2.out.below hb3 HS2.out.lt)
  have HB3 := hide (HB2.out.trans (hb3.mono HB2.out.size))
  have HZ3 := hide (HZ2.out.below hb3 (Nat.le_refl _))
  have HL3 := hide (HL2.out.below hb3 (Nat.le_refl _))
  clear hb3
  obtain ⟨⟨t0, t1, t2, t3, t4, t5, t6, t7⟩, _⟩ := row8 HF3.out
  go_wp2_with fail
  clear hw3 t0 t1 t2 t3 t4 t5 t6 t7
  obtain ⟨b, hb⟩ : ∃ b, w2.heap.size = b := ⟨_, rfl⟩
  rw [hb] at HF3 HLB ⊢
  clear hb HS2 HR2 HB2 HZ2 HL2
  refine (drawLevel g w.heap.size A n c code s κ p k γ P l lc C P' l' lc' w3 HS3.out HL3.out.2.1).mono ?_
  rintro e w4 ⟨z, rfl, hs4, hg4⟩
  have HS4 := hide hs4
  have HR4 := hide (row_grownF HR3.out hg4 (by have := HLE.out; omega))
  have HF4 := hide (row_grownF HF3.out hg4 (by have := HLE.out; have := HLB.out; omega))
  have HB4 := hide (HB3.out.grown hg4 HB3.out.size (fun r hr => by cases hr; exact Nat.le_of_lt HLE.out))
  have HZ4 := hide (HZ3.out.grown hg4 HLO.out.1)
  have HL4 := hide (HL3.out.grown hg4 HLO.out.1)
  clear hs4 hg4 HS3 HR3 HB3 HZ3 HL3 HF3
  have hbd := (Below.refl w4.heap.size w4).drew
  have HRd := hide (heap_nextG HR4.out hbd)
  have HFd := hide (heap_nextG HF4.out hbd)
  have HSd := hide (HS4.out.below hbd HS4.out.lt)
  have HBd := hide (HB4.out.trans (hbd.mono HB4.out.size))
  have HZd := hide (HZ4.out.below hbd (Nat.le_refl _))
  have HLd := hide (HL4.out.below hbd (Nat.le_refl _))
  clear hbd
  obtain ⟨⟨t0, t1, t2, t3, t4, t5, t6, t7⟩, _⟩ := row8 HF4.out
  go_wp2_with fail
  clear t0 t1 t2 t3 t4 t5 t6 t7
  refine tail_begin (fun w' => w'.cell? ⟨b, 0, none⟩ = some (.string s) ∧ w'.cell? ⟨b, 1, none⟩ = some (.int .i64 κ) ∧ w'.cell? ⟨b, 2, none⟩ = some (.int .i64 p) ∧ w'.cell? ⟨b, 3, none⟩ = some (.int .i64 k) ∧ w'.cell? ⟨b, 4, none⟩ = some (.int .i64 γ) ∧ w'.cell? ⟨b, 5, none⟩ = some (.slice P l lc) ∧ w'.cell? ⟨b, 6, none⟩ = some (.int .i64 C) ∧ w'.cell? ⟨b, 7, none⟩ = some (.slice P' l' lc')) 7 (by kernel_rfl) (row8 HFd.out).1 (fun hS' => ?_)
  obtain ⟨wd, hwd⟩ : ∃ q, w4.drew = q := ⟨_, rfl⟩
  rw [hwd] at hS' HFd HRd HSd HBd HZd HLd ⊢
  clear hwd HF4 HR4 HS4 HB4 HZ4 HL4
  refine tail_take2 0 rfl (by kernel_rfl) (by kernel_rfl) (by kernel_rfl) (by decide) (fun _ _ _ h => h) (by rfl) (v := ?_) ?_ (by assumption) ?_
  rotate_left 1
  · intro w' hS'; obtain ⟨d0, d1, d2, d3, d4, d5, d6, d7⟩ := hS'; go_simp; try with_reducible rfl
  try simp only [Act.put, List.setIfInBounds_toArray, List.set_cons_zero, List.set_cons_succ]
  refine tail_take2 1 rfl (by kernel_rfl) (by kernel_rfl) (by kernel_rfl) (by decide) (fun _ _ _ h => h) (by rfl) (v := ?_) ?_ (by assumption) ?_
  rotate_left 1
  · intro w' hS'; obtain ⟨d0, d1, d2, d3, d4, d5, d6, d7⟩ := hS'; go_simp; try with_reducible rfl
  try simp only [Act.put, List.setIfInBounds_toArray, List.set_cons_zero, List.set_cons_succ]
  refine tail_take2 2 rfl (by kernel_rfl) (by kernel_rfl) (by kernel_rfl) (by decide) (fun _ _ _ h => h) (by rfl) (v := ?_) ?_ (by assumption) ?_
  rotate_left 1
  · intro w' hS'; obtain ⟨d0, d1, d2, d3, d4, d5, d6, d7⟩ := hS'; go_simp; try with_reducible rfl
  try simp only [Act.put, List.setIfInBounds_toArray, List.set_cons_zero, List.set_cons_succ]
  refine tail_call 3 rfl (by kernel_rfl) rfl (fun K' hK => ?_)
  go_simp
  go_at_call 20; refine (drawMsg g w.heap.size A n c code _ HSd.out).mono ?_; rintro e we ⟨y, rfl, hmz, hs5, hg5⟩; have HMZ := hide hmz; clear hmz
  have HSe := hide hs5
  have HRe := hide (row_grownF HRd.out hg5 (by have := HLE.out; omega))
  have HFe := hide (row_grownF HFd.out hg5 (by have := HLE.out; have := HLB.out; omega))
  have HBe := hide (HBd.out.grown hg5 HBd.out.size (fun r hr => by cases hr; exact Nat.le_of_lt HLE.out))
  have HZe := hide (HZd.out.grown hg5 HLO.out.1)
  have HLe := hide (HLd.out.grown hg5 HLO.out.1)
  clear hs5 hg5
  refine hK.out _ _ (by (try dsimp only); exact (row8 HFe.out).1) (fun hS' => ?_)
  clear hK K'
  try simp only [Act.put, List.setIfInBounds_toArray, List.set_cons_zero, List.set_cons_succ]
  obtain ⟨⟨z0, z1, z2, z3, z4, z5, z6, z7⟩, f0, f1, f2, f3, f4, f5, f6, f7⟩ := row8 HRe.out
  have HRs := hide (row8_set HRe.out (.string s) (.int .i64 κ) (.int .i64 p) (.int .i64 k) (.int .i64 γ) (.slice P l lc) (.int .i64 C) (.slice P' l' lc'))
  have HFs := hide (row8_other HFe.out (show b ≠ w.heap.size by have := HLE.out; have := HLB.out; omega) (.string s) (.int .i64 κ) (.int .i64 p) (.int .i64 k) (.int .i64 γ) (.slice P l lc) (.int .i64 C) (.slice P' l' lc'))
  have HSs := hide (src_set8 HSe.out (b := w.heap.size) (by have := HLE.out; omega) (Nat.le_refl _) (.string s) (.int .i64 κ) (.int .i64 p) (.int .i64 k) (.int .i64 γ) (.slice P l lc) (.int .i64 C) (.slice P' l' lc'))
  have HBs := hide (below_set8 HBe.out (Nat.le_refl _) (.string s) (.int .i64 κ) (.int .i64 p) (.int .i64 k) (.int .i64 γ) (.slice P l lc) (.int .i64 C) (.slice P' l' lc'))
  have HZs := hide (HZe.out.set8 HLO.out.2 (.string s) (.int .i64 κ) (.int .i64 p) (.int .i64 k) (.int .i64 γ) (.slice P l lc) (.int .i64 C) (.slice P' l' lc'))
  have HLs := hide (HLe.out.set8 HLO.out.2 (.string s) (.int .i64 κ) (.int .i64 p) (.int .i64 k) (.int .i64 γ) (.slice P l lc) (.int .i64 C) (.slice P' l' lc'))
  obtain ⟨ws, hws⟩ : ∃ q, set8F we w.heap.size (.string s) (.int .i64 κ) (.int .i64 p) (.int .i64 k) (.int .i64 γ) (.slice P l lc) (.int .i64 C) (.slice P' l' lc') = q := ⟨_, rfl⟩
  rw [hws] at HRs HFs HSs HBs HZs HLs
  unfold set8F at hws
  refine tail_call 4 rfl (by kernel_rfl) rfl (fun K' hK => ?_)
  go_simp
  try rw [hws]
  clear hws z0 z1 z2 z3 z4 z5 z6 z7 f0 f1 f2 f3 f4 f5 f6 f7
  refine hK.out _ _ (by (try dsimp only); exact (row8 HFs.out).1) (fun hS' => ?_)
  clear hK K'
  try simp only [Act.put, List.setIfInBounds_toArray, List.set_cons_zero, List.set_cons_succ]
  refine tail_take2 5 rfl (by kernel_rfl) (by kernel_rfl) (by kernel_rfl) (by decide) (fun _ _ _ h => h) (by rfl) (v := ?_) ?_ (by assumption) ?_
  rotate_left 1
  · intro w' hS'; obtain ⟨d0, d1, d2, d3, d4, d5, d6, d7⟩ := hS'; go_simp; try with_reducible rfl
  try simp only [Act.put, List.setIfInBounds_toArray, List.set_cons_zero, List.set_cons_succ]
  refine tail_take2 6 rfl (by kernel_rfl) (by kernel_rfl) (by kernel_rfl) (by decide) (fun _ _ _ h => h) (by rfl) (v := ?_) ?_ (by assumption) ?_
  rotate_left 1
  · intro w' hS'; obtain ⟨d0, d1, d2, d3, d4, d5, d6, d7⟩ := hS'; go_simp; try with_reducible rfl
  try simp only [Act.put, List.setIfInBounds_toArray, List.set_cons_zero, List.set_cons_succ]
  refine tail_end (by kernel_rfl) ?_
  obtain ⟨⟨r0, r1, r2, r3, r4, r5, r6, r7⟩, _⟩ := row8 HRs.out
  go_wp2_with fail
  exact bodyPost_ret (v := .tuple #[.agg #[.string s, .int .i64 κ, .int .i64 p, .int .i64 k, .int .i64 γ, .slice P l lc, .int .i64 C, .slice P' l' lc'], .int .i64 z, .string y]) (by simp [results, Tryz.results6, go_sem, r0, r1, r2, r3, r4, r5, r6, r7]) rfl ⟨_, _, _, _, _, _, _, _, _, _, _, _, zs, ls, z, y, rfl, HSZ.out, by have := HMZ.out; omega, HZs.out.low (Nat.le_of_lt HLO.out.2), HLs.out.low (Nat.le_of_lt HLO.out.2), HBs.out⟩
end Go.Proofs.YtncgeoliboidhaaGreat
