/-
  pdqsortOrdered of less than 50 runes that are all different; slices.Sort.
-/
import Derived.Test.YtbgbhlnidabhnaaSHeap
import Derived.Test.YtbgbhlnidabhnaaSMisc
import Derived.Test.YtbgbhlnidabhnaaSPart
import Derived.Test.YtbgbhlnidabhnaaSBreak
namespace Go.Proofs.Ytbgbhlnidabhnaa.U
open Go.RowKit
set_option linter.unusedVariables false
set_option linter.unusedSimpArgs false
set_option maxRecDepth 100000

/-- what lies just ahead of [a, b) is less than all of it -/
def LowA (a b : Nat) (d : Array Int) : Prop := 0 < a → ∀ i, a ≤ i → i < b → d[a - 1]! < d[i]!

theorem nodup_ne {d : Array Int} (h : d.toList.Nodup) {i j : Nat} (hi : i < d.size) (hj : j < d.size) (hne : i ≠ j) : d[i]! ≠ d[j]! := by
  have hp := List.pairwise_iff_getElem.1 h
  have hi' : i < d.toList.length := by simpa using hi
  have hj' : j < d.toList.length := by simpa using hj
  have h1 : d[i]! = d.toList[i] := by simp [hi]
  have h2 : d[j]! = d.toList[j] := by simp [hj]
  rw [h1, h2]
  rcases Nat.lt_or_gt_of_ne hne with q | q
  · exact hp i j hi' hj' q
  · exact (hp j i hj' hi' q).symm
theorem perm_all {a b n : Nat} {d e : Array Int} (h : Sort.PermIn a b d e) (hn : d.size = n) (hb : b ≤ n) : e.toList.Perm d.toList := by
  have h2 := Sort.permIn_mono d e a b 0 n (Nat.zero_le _) hb (by omega) h
  have h3 := h2.2.2
  have e1 : e.extract 0 n = e := by
    have := h2.1
    rw [show n = e.size by omega]
    simp
  have e2 : d.extract 0 n = d := by
    rw [← hn]
    simp
  rwa [e1, e2] at h3
theorem perm_nodup {a b n : Nat} {d e : Array Int} (h : Sort.PermIn a b d e) (hn : d.size = n) (hb : b ≤ n) (hd : d.toList.Nodup) : e.toList.Nodup := (perm_all h hn hb).nodup_iff.2 hd
theorem LowA.perm {a b n : Nat} {d e : Array Int} (hl : LowA a b d) (h : Sort.PermIn a b d e) (hn : d.size = n) (hb : b ≤ n) : LowA a b e := by
  intro h0
  have h1 := h.2.1 (a - 1) (.inl (by omega))
  rw [h1]
  exact Sort.permIn_all d e a b (fun x => d[a - 1]! < x) (by omega) h (hl h0)

/-- in the midst of pdqsortOrdered: the rest to be sorted is [a2, b2) -/
def PdS (w wr : World) (g cap n a b : Nat) (d : Array Int) (a2 b2 : Nat) (e : Array Int) : Prop := e.size = n ∧ RowS wr g cap e ∧ Sort.PermIn a b d e ∧ LowA a2 b2 e ∧ Fr (fun k => k = g) w wr ∧ (∀ e', Sort.PermIn a2 b2 e e' → Sort.SortedIn Sort.ltInt a2 b2 e' → Sort.SortedIn Sort.ltInt a b e') ∧ e.toList.Nodup
section
variable {w wr wz : World} {g cap n a b a2 b2 m : Nat} {d e e2 : Array Int}
theorem PdS.perm (h : PdS w wr g cap n a b d a2 b2 e) (ha : a ≤ a2) (hab : a2 ≤ b2) (hb : b2 ≤ b) (hn : b ≤ n) (hr : RowS wz g cap e2) (hf : Fr (fun k => k = g) wr wz) (hp : Sort.PermIn a2 b2 e e2) : PdS w wz g cap n a b d a2 b2 e2 := by
  obtain ⟨h1, h2, h3, h4, h5, h6, h7⟩ := h
  exact ⟨by rw [hp.1, h1], hr, Sort.permIn_trans _ _ _ _ _ h3 (Sort.permIn_mono _ _ _ _ _ _ ha hb (by omega) hp), h4.perm hp h1 (by omega), h5.trans hf (fun _ _ h => h), fun e' q1 q2 => h6 e' (Sort.permIn_trans _ _ _ _ _ hp q1) q2, perm_nodup hp h1 (by omega) h7⟩
theorem PdS.done (h : PdS w wr g cap n a b d a2 b2 e) (ha : a ≤ a2) (hab : a2 ≤ b2) (hb : b2 ≤ b) (hn : b ≤ n) (hr : RowS wz g cap e2) (hf : Fr (fun k => k = g) wr wz) (hp : Sort.PermIn a2 b2 e e2) (hs : Sort.SortedIn Sort.ltInt a2 b2 e2) :
    ∃ d' : Array Int, d'.size = n ∧ RowS wz g cap d' ∧ Sort.PermIn a b d d' ∧ Sort.SortedIn Sort.ltInt a b d' ∧ Fr (fun k => k = g) w wz := by
  have h2 := h.perm ha hab hb hn hr hf hp
  exact ⟨e2, h2.1, hr, h2.2.2.1, h.2.2.2.2.2.1 e2 hp hs, h2.2.2.2.2.1⟩
/-- what partition leaves -/
def Mid (e : Array Int) (a b m : Nat) : Prop := a ≤ m ∧ m < b ∧ (∀ i, a ≤ i → i < m → e[i]! < e[m]!) ∧ (∀ i, m < i → i < b → e[m]! < e[i]!)
theorem mid_of (hp : a ≤ m ∧ m < b ∧ Sort.PermIn a b d e ∧ (∀ i, a ≤ i → i < m → Sort.ltInt e[i]! e[m]! = true) ∧ (∀ i, m < i → i < b → Sort.ltInt e[i]! e[m]! = false)) (hs : e.size = n) (hb : b ≤ n) (hd : e.toList.Nodup) : Mid e a b m := by
  obtain ⟨h1, h2, h3, h4, h5⟩ := hp
  refine ⟨h1, h2, fun i q1 q2 => by simpa [Sort.ltInt] using h4 i q1 q2, fun i q1 q2 => ?_⟩
  have k1 : e[m]! ≤ e[i]! := by simpa [Sort.ltInt] using h5 i q1 q2
  have k2 := nodup_ne hd (i := i) (j := m) (by omega) (by omega) (by omega)
  omega
theorem Mid.glue (hm : Mid e a b m) (hsz : e.size = n) (hb : b ≤ n) {e2 e' : Array Int} (h1 : Sort.PermIn a m e e2) (h2 : Sort.PermIn (m + 1) b e2 e') (s1 : Sort.SortedIn Sort.ltInt a m e2) (s2 : Sort.SortedIn Sort.ltInt (m + 1) b e') : Sort.SortedIn Sort.ltInt a b e' := by
  obtain ⟨k1, k2, k3, k4⟩ := hm
  have em : e2[m]! = e[m]! := h1.2.1 m (.inr (by omega))
  have em' : e'[m]! = e[m]! := (h2.2.1 m (.inl (by omega))).trans em
  refine Sort.sorted_glue Sort.swo_ltInt (mid := m) ?_ s2 ?_ ?_
  · intro i j q1 q2 q3
    rw [h2.2.1 i (.inl (by omega)), h2.2.1 j (.inl (by omega))]
    exact s1 i j q1 q2 q3
  · intro i q1 q2
    rw [em', h2.2.1 i (.inl (by omega))]
    have := Sort.permIn_all e e2 a m (fun x => x < e[m]!) (by omega) h1 k3 i q1 q2
    simpa [Sort.ltInt] using this
  · intro i q1 q2
    rw [em']
    have h3 : ∀ i, m + 1 ≤ i → i < b → e[m]! < e2[i]! := fun i q1 q2 => by rw [h1.2.1 i (.inr (by omega))]; exact k4 i (by omega) q2
    have := Sort.permIn_all e2 e' (m + 1) b (fun x => e[m]! < x) (by rw [h1.1]; omega) h2 h3 i (by omega) q2
    simp [Sort.ltInt]
    omega
theorem Mid.glue2 (hm : Mid e a b m) (hsz : e.size = n) (hb : b ≤ n) {e2 e' : Array Int} (h1 : Sort.PermIn (m + 1) b e e2) (h2 : Sort.PermIn a m e2 e') (s1 : Sort.SortedIn Sort.ltInt (m + 1) b e2) (s2 : Sort.SortedIn Sort.ltInt a m e') : Sort.SortedIn Sort.ltInt a b e' := by
  obtain ⟨k1, k2, k3, k4⟩ := hm
  have em : e2[m]! = e[m]! := h1.2.1 m (.inl (by omega))
  have em' : e'[m]! = e[m]! := (h2.2.1 m (.inr (by omega))).trans em
  refine Sort.sorted_glue Sort.swo_ltInt (mid := m) s2 ?_ ?_ ?_
  · intro i j q1 q2 q3
    rw [h2.2.1 i (.inr (by omega)), h2.2.1 j (.inr (by omega))]
    exact s1 i j q1 q2 q3
  · intro i q1 q2
    rw [em']
    have h3 : ∀ i, a ≤ i → i < m → e2[i]! < e[m]! := fun i q1 q2 => by rw [h1.2.1 i (.inl (by omega))]; exact k3 i q1 q2
    have := Sort.permIn_all e2 e' a m (fun x => x < e[m]!) (by rw [h1.1]; omega) h2 h3 i q1 q2
    simpa [Sort.ltInt] using this
  · intro i q1 q2
    rw [em', h2.2.1 i (.inr (by omega))]
    have := Sort.permIn_all e e2 (m + 1) b (fun x => e[m]! < x) (by omega) h1 (fun i q1 q2 => k4 i (by omega) q2) i (by omega) q2
    simp [Sort.ltInt]
    omega
theorem Mid.lowL (hm : Mid e a b m) (hl : LowA a b e) : LowA a m e := fun h0 i q1 q2 => hl h0 i q1 (by have := hm.2.1; omega)
theorem Mid.lowR (hm : Mid e a b m) : LowA (m + 1) b e := fun h0 i q1 q2 => hm.2.2.2 i (by omega) q2
theorem PdS.left (h : PdS w wr g cap n a b d a2 b2 e) (hm : Mid e a2 b2 m) (ha : a ≤ a2) (hb : b2 ≤ b) (hn : b ≤ n) (hr : RowS wz g cap e2) (hf : Fr (fun k => k = g) wr wz) (hp : Sort.PermIn a2 m e e2) (hs : Sort.SortedIn Sort.ltInt a2 m e2) : PdS w wz g cap n a b d (m + 1) b2 e2 := by
  obtain ⟨h1, h2, h3, h4, h5, h6, h7⟩ := h
  have k1 := hm.1
  have k2 := hm.2.1
  have hp2 : Sort.PermIn a2 b2 e e2 := Sort.permIn_mono _ _ _ _ _ _ (Nat.le_refl _) (by omega) (by omega) hp
  refine ⟨by rw [hp.1, h1], hr, Sort.permIn_trans _ _ _ _ _ h3 (Sort.permIn_mono _ _ _ _ _ _ (by omega) (by omega) (by omega) hp), ?_, h5.trans hf (fun _ _ h => h), ?_, perm_nodup hp h1 (by omega) h7⟩
  · intro h0 i q1 q2
    rw [hp.2.1 i (.inr (by omega)), show m + 1 - 1 = m by omega, hp.2.1 m (.inr (by omega))]
    exact hm.2.2.2 i (by omega) q2
  · intro e' q1 q2
    refine h6 e' (Sort.permIn_trans _ _ _ _ _ hp2 (Sort.permIn_mono _ _ _ _ _ _ (by omega) (Nat.le_refl _) (by rw [hp.1]; omega) q1)) (hm.glue h1 (by omega) hp q1 hs q2)
theorem PdS.right (h : PdS w wr g cap n a b d a2 b2 e) (hm : Mid e a2 b2 m) (ha : a ≤ a2) (hb : b2 ≤ b) (hn : b ≤ n) (hr : RowS wz g cap e2) (hf : Fr (fun k => k = g) wr wz) (hp : Sort.PermIn (m + 1) b2 e e2) (hs : Sort.SortedIn Sort.ltInt (m + 1) b2 e2) : PdS w wz g cap n a b d a2 m e2 := by
  obtain ⟨h1, h2, h3, h4, h5, h6, h7⟩ := h
  have k1 := hm.1
  have k2 := hm.2.1
  have hp2 : Sort.PermIn a2 b2 e e2 := Sort.permIn_mono _ _ _ _ _ _ (by omega) (Nat.le_refl _) (by omega) hp
  refine ⟨by rw [hp.1, h1], hr, Sort.permIn_trans _ _ _ _ _ h3 (Sort.permIn_mono _ _ _ _ _ _ (by omega) (by omega) (by omega) hp), ?_, h5.trans hf (fun _ _ h => h), ?_, perm_nodup hp h1 (by omega) h7⟩
  · intro h0 i q1 q2
    exact h4.perm hp2 h1 (by omega) h0 i q1 (by omega)
  · intro e' q1 q2
    refine h6 e' (Sort.permIn_trans _ _ _ _ _ hp2 (Sort.permIn_mono _ _ _ _ _ _ (Nat.le_refl _) (by omega) (by rw [hp.1]; omega) q1)) (hm.glue2 h1 (by omega) hp q1 hs q2)
def FinS (w wz : World) (g cap n a b : Nat) (d : Array Int) : Prop := ∃ d' : Array Int, d'.size = n ∧ RowS wz g cap d' ∧ Sort.PermIn a b d d' ∧ Sort.SortedIn Sort.ltInt a b d' ∧ Fr (fun k => k = g) w wz
theorem PdS.insertion (h : PdS w wr g cap n a b d a2 b2 e) (ha : a ≤ a2) (hab : a2 ≤ b2) (hb : b2 ≤ b) (hn : b ≤ n) (hn2 : n < 50) :
    Calls Try.prog 43 #[.slice (some ⟨g, 0, none⟩) n cap, .int .i64 a2, .int .i64 b2] wr fun ev w' => ev = .returned (.tuple #[]) ∧ Hid (FinS w w' g cap n a b d) := by
  refine (insertion_any g cap n a2 b2 e wr h.2.1 h.1 (by omega) hab (by omega)).mono ?_
  rintro ev w' ⟨rfl, h2, h3⟩
  have hh := Sort.insertionSort_holds Sort.swo_ltInt e a2 b2 hab (by rw [h.1]; omega)
  exact ⟨rfl, h.done ha hab hb hn h2 h3 hh.1 hh.2⟩
theorem PdS.heap (h : PdS w wr g cap n a b d a2 b2 e) (ha : a ≤ a2) (hab : a2 + 12 < b2) (hb : b2 ≤ b) (hn : b ≤ n) (hn2 : n < 50) :
    Calls Try.prog 44 #[.slice (some ⟨g, 0, none⟩) n cap, .int .i64 a2, .int .i64 b2] wr fun ev w' => ev = .returned (.tuple #[]) ∧ Hid (FinS w w' g cap n a b d) := by
  refine (heap_any g cap n a2 b2 e wr h.2.1 h.1 (by omega) (by omega) (by omega)).mono ?_
  rintro ev w' ⟨rfl, h2, h3⟩
  have hh := Sort.heapSort_holds Sort.swo_ltInt e a2 b2 (by omega) (by rw [h.1]; omega)
  exact ⟨rfl, h.done ha (by omega) hb hn h2 h3 hh.1 hh.2⟩
theorem PdS.brk (h : PdS w wr g cap n a b d a2 b2 e) (ha : a ≤ a2) (hab : a2 + 12 < b2) (hb : b2 ≤ b) (hn : b ≤ n) (hn2 : n < 50) :
    Calls Try.prog 45 #[.slice (some ⟨g, 0, none⟩) n cap, .int .i64 a2, .int .i64 b2] wr fun ev w' => ev = .returned (.tuple #[]) ∧ ∃ e2, Hid (PdS w w' g cap n a b d a2 b2 e2) := by
  refine (break_any g cap n a2 b2 e wr h.2.1 h.1 hn2 hab (by omega)).mono ?_
  rintro ev w' ⟨rfl, e2, h1, h2, h3, h4⟩
  exact ⟨rfl, e2, h.perm ha (by omega) hb hn h2 h4 h3⟩
theorem PdS.rev (h : PdS w wr g cap n a b d a2 b2 e) (ha : a ≤ a2) (hab : a2 + 12 < b2) (hb : b2 ≤ b) (hn : b ≤ n) (hn2 : n < 50) :
    Calls Try.prog 47 #[.slice (some ⟨g, 0, none⟩) n cap, .int .i64 a2, .int .i64 b2] wr fun ev w' => ev = .returned (.tuple #[]) ∧ ∃ e2, Hid (PdS w w' g cap n a b d a2 b2 e2) := by
  refine (reverse_any g cap n a2 b2 e wr h.2.1 h.1 (by omega) (by omega) (by omega)).mono ?_
  rintro ev w' ⟨rfl, h2, h3⟩
  exact ⟨rfl, _, h.perm ha (by omega) hb hn h2 h3 (Sort.reverseRange_holds e a2 b2 (by omega) (by rw [h.1]; omega))⟩
theorem PdS.pivot (h : PdS w wr g cap n a b d a2 b2 e) (ha : a ≤ a2) (hab : a2 + 12 < b2) (hb : b2 ≤ b) (hn : b ≤ n) (hn2 : n < 50) :
    Calls Try.prog 46 #[.slice (some ⟨g, 0, none⟩) n cap, .int .i64 a2, .int .i64 b2] wr fun ev w' => ∃ (p : Nat) (t : Int), ev = .returned (.tuple #[.int .i64 (p : Nat), .int .i64 t]) ∧ (a2 ≤ p ∧ p < b2) ∧ (0 ≤ t ∧ t ≤ 2) ∧ Hid (PdS w w' g cap n a b d a2 b2 e) := by
  refine (pivot_any g cap n a2 b2 e wr h.2.1 h.1 hn2 hab (by omega)).mono ?_
  rintro ev w' ⟨⟨p, t, rfl, h1, h2, h3, h4⟩, h5⟩
  exact ⟨p, t, rfl, ⟨h1, h2⟩, ⟨h3, h4⟩, h.perm ha (by omega) hb hn (h.2.1.below h5) (Fr.of_below _ h5) (Sort.permIn_refl _ _ _)⟩
theorem PdS.drewN (h : PdS w wr g cap n a b d a2 b2 e) (m : Nat) (ha : a ≤ a2) (hab : a2 ≤ b2) (hb : b2 ≤ b) (hn : b ≤ n) : PdS w (wr.drewN m) g cap n a b d a2 b2 e :=
  h.perm ha hab hb hn (h.2.1.drewN m) (fr_drewN (Fr.refl _ _) m) (Sort.permIn_refl _ _ _)
theorem PdS.part1 (h : PdS w wr g cap n a b d a2 b2 e) (ha : a ≤ a2) (hab : a2 + 12 < b2) (hb : b2 ≤ b) (hn : b ≤ n) (hn2 : n < 50) :
    Calls Try.prog 48 #[.slice (some ⟨g, 0, none⟩) n cap, .int .i64 a2, .int .i64 b2] wr fun ev w' => ∃ r : Bool, ev = .returned (.bool r) ∧ (r = true → Hid (FinS w w' g cap n a b d)) ∧ Hid (PdS w w' g cap n a b d a2 b2 e) := by
  refine (partial_any g cap n a2 b2 e wr h.2.1 h.1 hn2 (by omega) (by omega)).mono ?_
  rintro ev w' ⟨r, rfl, h1, m, rfl⟩
  have hf : Fr (fun k => k = g) wr (wr.drewN m) := fr_drewN (Fr.refl _ _) m
  exact ⟨r, rfl, fun hr => h.done ha (by omega) hb hn (h.2.1.drewN m) hf (Sort.permIn_refl _ _ _) (h1 hr), h.perm ha (by omega) hb hn (h.2.1.drewN m) hf (Sort.permIn_refl _ _ _)⟩
theorem PdS.part (h : PdS w wr g cap n a b d a2 b2 e) (ha : a ≤ a2) (hab : a2 + 12 < b2) (hb : b2 ≤ b) (hn : b ≤ n) (hn2 : n < 50) (p : Nat) (hp1 : a2 ≤ p) (hp2 : p < b2) :
    Calls Try.prog 51 #[.slice (some ⟨g, 0, none⟩) n cap, .int .i64 a2, .int .i64 b2, .int .i64 p] wr fun ev w' => ∃ (m : Nat) (r : Bool) (e2 : Array Int), ev = .returned (.tuple #[.int .i64 (m : Nat), .bool r]) ∧ (a2 ≤ m ∧ m < b2) ∧ Hid (PdS w w' g cap n a b d a2 b2 e2 ∧ Mid e2 a2 b2 m) := by
  refine (partition_any g cap n a2 b2 p e wr h.2.1 h.1 (by omega) hp1 hp2 (by omega) (by omega)).mono ?_
  rintro ev w' ⟨m, r, rfl, ⟨h1, h2⟩, h3, h4⟩
  have hh := Sort.partition_holds Sort.ltInt Sort.swo_ltInt e a2 b2 p hp1 hp2 (by rw [h.1]; omega)
  rw [h1] at hh
  have h5 := h.perm ha (by omega) hb hn h3 h4 hh.2.2.1
  have hm := mid_of hh h5.1 (by omega) h5.2.2.2.2.2.2
  exact ⟨m, r, _, rfl, ⟨hm.1, hm.2.1⟩, h5, hm⟩
end
set_option maxHeartbeats 8000000 in
theorem pdq_any (g cap n : Nat) (hn2 : n < 50) : ∀ (N a b limit : Nat) (d : Array Int) (w : World), b - a < N → RowS w g cap d → d.size = n → d.toList.Nodup → a ≤ b → b ≤ n → limit ≤ 64 → LowA a b d →
    Calls Try.prog 41 #[.slice (some ⟨g, 0, none⟩) n cap, .int .i64 a, .int .i64 b, .int .i64 limit] w fun ev w' => ev = .returned (.tuple #[]) ∧ Hid (FinS w w' g cap n a b d) := by
  intro N
  induction N with
  | zero => intro a b limit d w h; omega
  | succ N ih =>
    intro a b limit d w hN hR hsz hnd hab hbn hlim hlow
    have HIH := Lib.hid ih
    have H0 : Hid (PdS w w g cap n a b d a b d) := ⟨hsz, hR, Sort.permIn_refl _ _ _, hlow, Fr.refl _ _, fun e' _ h => h, hnd⟩
    clear ih hR hsz hnd hlow
    go_enter Try.func41, Try.ntmps41
    go_wp2_with fail
    go_loopw [1, 2, 3, 8, 9] (fun va vb vl vx vy wr => ∃ (a2 b2 l2 : Nat) (bal par : Bool) (e : Array Int), va = .int .i64 a2 ∧ vb = .int .i64 b2 ∧ vl = .int .i64 l2 ∧ vx = .bool bal ∧ vy = .bool par ∧ a ≤ a2 ∧ a2 ≤ b2 ∧ b2 ≤ b ∧ l2 ≤ limit ∧ Hid (PdS w wr g cap n a b d a2 b2 e)) (fun va vb _ _ _ _ => (intOf vb - intOf va).toNat)
    case atStart => exact ⟨a, b, limit, true, true, d, rfl, rfl, rfl, rfl, rfl, Nat.le_refl _, hab, Nat.le_refl _, Nat.le_refl _, H0⟩
    case round =>
      clear H0
      obtain ⟨a2, b2, l2, bal, par, e, rfl, rfl, rfl, rfl, rfl, haa, hab2, hbb, hll, HS⟩ := hrel
      obtain ⟨l, hl⟩ : ∃ l, b2 - a2 = l := ⟨_, rfl⟩
      have hl1 : (b2 : Int) - (a2 : Int) = (l : Int) := by omega
      have HL := Lib.hid hl
      clear hl
      by_cases hshort : l ≤ 12
      · have hs2 : decide ((l : Int) ≤ 12) = true := by simp; omega
        go_wp2_with (go_at_call 43; refine (HS.out.insertion haa hab2 hbb hbn hn2).mono ?_; rintro ev w' ⟨rfl, HF⟩)
        (first | go_end0 | go_ret | refine bodyPost_ret (results_none rfl _ _ _) rfl ?_)
        exact ⟨rfl, HF⟩
      have hs2 : decide ((l : Int) ≤ 12) = false := by simp; omega
      have hab3 : a2 + 12 < b2 := by have := HL.out; omega
      by_cases hz : l2 = 0
      · subst hz
        go_wp2_with (go_at_call 44; refine (HS.out.heap haa hab3 hbb hbn hn2).mono ?_; rintro ev w' ⟨rfl, HF⟩)
        (first | go_end0 | go_ret | refine bodyPost_ret (results_none rfl _ _ _) rfl ?_)
        exact ⟨rfl, HF⟩
      have hz2 : ((l2 : Int) == 0) = false := by simp; omega
      go_upto_if 35 with fail
      go_cut [3] (fun v wx => ∃ (l3 : Nat) (e3 : Array Int), v = .int .i64 l3 ∧ l3 ≤ l2 ∧ Hid (PdS w wx g cap n a b d a2 b2 e3))
      case first =>
        cases bal
        · go_wp2_with (go_at_call 45; refine (HS.out.brk haa hab3 hbb hbn hn2).mono ?_; rintro ev w' ⟨rfl, e2, HF⟩)
          go_meet
          obtain ⟨k, hk⟩ : ∃ k, l2 = k + 1 := ⟨l2 - 1, by omega⟩
          exact ⟨k, e2, by go_num, by omega, HF⟩
        · go_wp2_with fail
          go_meet
          exact ⟨l2, e, rfl, Nat.le_refl _, HS⟩
      obtain ⟨l3, e3, rfl, hl3, HS3⟩ := hcut
      clear HS
      go_upto_if 50 with (go_at_call 46; refine (HS3.out.pivot haa hab3 hbb hbn hn2).mono ?_; rintro ev w4 ⟨p, t, rfl, hp, ht, HS4⟩; clear HS3)
      go_cut [11, 12] (fun v1 v2 wx => ∃ (p2 : Nat) (t2 : Int) (e4 : Array Int), v1 = .int .i64 p2 ∧ v2 = .int .i64 t2 ∧ (a2 ≤ p2 ∧ p2 < b2) ∧ Hid (PdS w wx g cap n a b d a2 b2 e4))
      case first =>
        by_cases ht2 : t = 2
        · subst ht2
          obtain ⟨q, hq⟩ : ∃ q, b2 - 1 - (p - a2) = q := ⟨_, rfl⟩
          have hq1 : (b2 : Int) - 1 - ((p : Int) - (a2 : Int)) = (q : Int) := by omega
          go_wp2_with (go_at_call 47; refine (HS4.out.rev haa hab3 hbb hbn hn2).mono ?_; rintro ev w5 ⟨rfl, e4, HS5⟩)
          go_meet
          exact ⟨q, 1, e4, by first | rfl | go_num, rfl, by omega, HS5⟩
        · have ht3 : (t == 2) = false := by simpa using ht2
          go_wp2_with fail
          go_meet
          exact ⟨p, t, e3, rfl, rfl, hp, HS4⟩
      clear HS4 hp ht
      obtain ⟨p2, t2, e4, rfl, rfl, hp2, HS5⟩ := hcut
      clear e e3 p t
      go_upto_region 15 with fail
      go_cut [68] (fun v wx => ∃ q : Bool, v = .bool q ∧ Hid (PdS w wx g cap n a b d a2 b2 e4))
      case first =>
        by_cases ht1 : t2 = 1
        · subst ht1
          cases bal <;> cases par
          all_goals
            go_wp2_with fail
            go_meet
            exact ⟨_, rfl, HS5⟩
        · have ht3 : (t2 == 1) = false := by simpa using ht1
          cases bal <;> cases par
          all_goals
            go_wp2_with fail
            go_meet
            exact ⟨_, rfl, HS5⟩
      obtain ⟨q, rfl, HS6⟩ := hcut
      clear HS5
      go_upto_if 68 with fail
      go_cut [] (fun wx => Hid (PdS w wx g cap n a b d a2 b2 e4))
      case first =>
        cases q
        · go_wp2_with fail
          go_meet
          exact HS6
        · go_wp2_with (go_at_call 48; refine (HS6.out.part1 haa hab3 hbb hbn hn2).mono ?_; rintro ev w7 ⟨r, rfl, hr, HS7⟩; cases r)
          · go_meet
            exact HS7
          · (first | go_end0 | go_ret | refine bodyPost_ret (results_none rfl _ _ _) rfl ?_)
            exact ⟨rfl, by first | exact hr rfl | exact hr trivial⟩
      have HS7 := Lib.hid hcut.out
      clear HS6 hcut
      go_upto_region 17 with fail
      go_cut [87] (fun v wx => v = .bool false ∧ Hid (PdS w wx g cap n a b d a2 b2 e4))
      case first =>
        by_cases ha0 : a2 = 0
        · have hg1 : decide ((0 : Int) < (a2 : Int)) = false := by simp; omega
          have hg2 : decide (0 < a2) = false := by simp; omega
          go_quiet (fail)
          go_wp2_with fail
          go_meet
          exact ⟨rfl, HS7.out.drewN nq haa (by omega) hbb hbn⟩
        · have hg1 : decide ((0 : Int) < (a2 : Int)) = true := by simp; omega
          have hg2 : decide (0 < a2) = true := by simp; omega
          obtain ⟨k, hk⟩ : ∃ k, a2 - 1 = k := ⟨_, rfl⟩
          have hk1 : (a2 : Int) - 1 = (k : Int) := by omega
          have hlow := HS7.out.2.2.2.1 (by omega) p2 hp2.1 hp2.2
          rw [hk] at hlow
          have x0 := HS7.out.2.1.at_ (i := k) (by rw [HS7.out.1]; omega)
          have y0 := HS7.out.2.1.at_ (i := p2) (by rw [HS7.out.1]; omega)
          obtain ⟨x, hx⟩ : ∃ x, e4[k]! = x := ⟨_, rfl⟩
          obtain ⟨y, hy⟩ : ∃ y, e4[p2]! = y := ⟨_, rfl⟩
          rw [hx] at x0 hlow
          rw [hy] at y0 hlow
          clear hx hy hk
          have hkn : (k : Int) < (n : Int) := by omega
          have hpn : (p2 : Int) < (n : Int) := by omega
          have hlt2 : decide (x < y) = true := by simpa using hlow
          go_quiet (first | (go_at_call 49; refine Calls.quiet_of_same (less_any _ _ _)))
          go_wp2_with fail
          go_meet
          exact ⟨rfl, HS7.out.drewN nq haa (by omega) hbb hbn⟩
      obtain ⟨rfl, HS8⟩ := hcut
      clear HS7
      go_upto_if 113 with (go_at_call 51; refine (HS8.out.part haa hab3 hbb hbn hn2 p2 hp2.1 hp2.2).mono ?_; rintro ev w9 ⟨m, r, e5, rfl, hm, HS9⟩; clear HS8; obtain ⟨x, hx⟩ : (∃ x, m - a2 = x) := ⟨_, rfl⟩; obtain ⟨y, hy⟩ : (∃ y, b2 - m = y) := ⟨_, rfl⟩; obtain ⟨o, ho⟩ : (∃ o, l / 8 = o) := ⟨_, rfl⟩; obtain ⟨m1, hm1⟩ : (∃ m1, m + 1 = m1) := ⟨_, rfl⟩; have hx1 : (m : Int) - (a2 : Int) = (x : Int) := (by omega); have hy1 : (b2 : Int) - (m : Int) = (y : Int) := (by omega); have ho1 : (l : Int) / 8 = (o : Int) := (by omega); have hmm1 : (m : Int) + 1 = (m1 : Int) := (by omega); have HX := Lib.hid hx; have HY := Lib.hid hy; have HM1 := Lib.hid hm1; clear hx hy hm1 ho)
      by_cases hxy : x < y
      · have hd1 : decide ((x : Int) < (y : Int)) = true := by simpa using hxy
        have hd2 : decide (x < y) = true := by simpa using hxy
        obtain ⟨bb, hbb1⟩ : ∃ bb : Bool, decide ((o : Int) ≤ (x : Int)) = bb := ⟨_, rfl⟩
        have hbb2 : decide (o ≤ x) = bb := by simpa using hbb1
        go_wp2_with (go_at_call 41; refine (HIH.out a2 m l3 e5 w9 (by omega) HS9.out.1.2.1 HS9.out.1.1 HS9.out.1.2.2.2.2.2.2 hm.1 (by omega) (by omega) (HS9.out.2.lowL HS9.out.1.2.2.2.1)).mono ?_; rintro ev w10 ⟨rfl, HF⟩)
        go_roundw
        case rel =>
          obtain ⟨e6, q1, q2, q3, q4, q5⟩ := HF.out
          have hL := HS9.out.1.left HS9.out.2 haa hbb hbn q2 q5 q3 q4
          rw [HM1.out] at hL
          exact ⟨m1, b2, l3, bb, r, e6, rfl, rfl, rfl, rfl, rfl, by have := HM1.out; omega, by have := HM1.out; omega, hbb, by omega, hL⟩
        case measure => simp [intOf]; omega
      · have hd1 : decide ((x : Int) < (y : Int)) = false := by simpa using hxy
        have hd2 : decide (x < y) = false := by simpa using hxy
        obtain ⟨bb, hbb1⟩ : ∃ bb : Bool, decide ((o : Int) ≤ (y : Int)) = bb := ⟨_, rfl⟩
        have hbb2 : decide (o ≤ y) = bb := by simpa using hbb1
        have hlowR := HS9.out.2.lowR
        rw [HM1.out] at hlowR
        go_wp2_with (go_at_call 41; refine (HIH.out m1 b2 l3 e5 w9 (by have := HM1.out; omega) HS9.out.1.2.1 HS9.out.1.1 HS9.out.1.2.2.2.2.2.2 (by have := HM1.out; omega) (by omega) (by omega) hlowR).mono ?_; rintro ev w10 ⟨rfl, HF⟩)
        go_roundw
        case rel =>
          obtain ⟨e6, q1, q2, q3, q4, q5⟩ := HF.out
          have h1 := HM1.out
          rw [← h1] at q3 q4
          have hL := HS9.out.1.right HS9.out.2 haa hbb hbn q2 q5 q3 q4
          exact ⟨a2, m, l3, bb, r, e6, rfl, rfl, rfl, rfl, rfl, haa, hm.1, by omega, by omega, hL⟩
        case measure => simp [intOf]; omega

theorem blen_le : ∀ n : Fin 50, Lib.bitLen n.val ≤ 6 := by decide +kernel
/-- slices.Sort of less than 50 runes that are all different -/
theorem sort_any (g cap n : Nat) (d : Array Int) (w : World) (h : RowS w g cap d) (hn : d.size = n) (hn2 : n < 50) (hd : d.toList.Nodup) :
    Calls Try.prog 39 #[.slice (some ⟨g, 0, none⟩) n cap] w fun ev w' => ev = .returned (.tuple #[]) ∧ Hid (FinS w w' g cap n 0 n d) := by
  obtain ⟨k, hk⟩ : ∃ k, Lib.bitLen n = k := ⟨_, rfl⟩
  have hk6 : k ≤ 6 := by have := blen_le ⟨n, hn2⟩; simp only [] at this; omega
  have hb := fun W => blen_any n W hn2
  rw [hk] at hb
  have HB := Lib.hid hb
  have HP : Hid (Calls Try.prog 41 #[.slice (some ⟨g, 0, none⟩) n cap, .int .i64 (0 : Nat), .int .i64 n, .int .i64 k] w fun ev w' => ev = .returned (.tuple #[]) ∧ Hid (FinS w w' g cap n 0 n d)) := pdq_any g cap n hn2 (n + 1) 0 n k d w (by omega) h hn hd (by omega) (Nat.le_refl _) (by omega) (fun h0 => by omega)
  clear hb hk h hn hd
  have tok : True := trivial
  go_enter Try.func39, Try.ntmps39
  go_wp2_with (first | (go_at_call 42; refine (HB.out _).mono ?_; rintro ev w' ⟨rfl, rfl⟩) | (go_at_call 41; refine HP.out.mono ?_; rintro ev w9 ⟨rfl, HF⟩))
  first | go_end0 | go_ret
  exact ⟨rfl, HF⟩
end Go.Proofs.Ytbgbhlnidabhnaa.U
