/-
  Changes in memory: three cells; rows of changes that can be read; rows that are the caller's own; one change more behind a row.
-/
import Derived.Test.YtalhiedbhcklgaaLBase
import Derived.Test.YtalhiedbhcklgaaVWay
namespace Go.Proofs.Ytalhiedbhcklgaa.U
open Go.RowKit
set_option linter.unusedVariables false
set_option linter.unusedSimpArgs false
set_option maxRecDepth 100000

def i64b (n : Int) : Prop := -9223372036854775808 ≤ n ∧ n ≤ 9223372036854775807
abbrev Tri := Value × Value × Value
def triL (u : Tri) : List Value := [u.1, u.2.1, u.2.2]
def trip (us : List Tri) : List Value := us.flatMap triL
theorem trip_cons (u : Tri) (us : List Tri) : trip (u :: us) = triL u ++ trip us := by simp [trip]
theorem trip_append (us vs : List Tri) : trip (us ++ vs) = trip us ++ trip vs := by simp [trip]
theorem trip_snoc (us : List Tri) (u : Tri) : trip (us ++ [u]) = trip us ++ triL u := by simp [trip]
theorem trip_len (us : List Tri) : (trip us).length = us.length * 3 := by
  induction us with
  | nil => rfl
  | cons u r ih => rw [trip_cons, List.length_append, ih]; simp [triL]; omega
theorem trip_at : ∀ (us : List Tri) (i j : Nat) (u : Tri), us[i]? = some u → j < 3 → (trip us)[i * 3 + j]? = (triL u)[j]?
  | y :: r, 0, j, u, h, hj => by
    simp at h
    subst h
    rw [trip_cons, Nat.zero_mul, Nat.zero_add, List.getElem?_append_left (by simp [triL]; omega)]
  | y :: r, i + 1, j, u, h, hj => by
    rw [trip_cons, List.getElem?_append_right (by simp [triL]; omega)]
    have e2 : (i + 1) * 3 + j - (triL y).length = i * 3 + j := by simp [triL]; omega
    rw [e2]
    exact trip_at r i j u (by simpa using h) hj
theorem trip_at0 {us : List Tri} {i : Nat} {u : Tri} (h : us[i]? = some u) : (trip us)[i * 3]? = some u.1 := by simpa [triL] using trip_at us i 0 u h (by omega)
theorem trip_at1 {us : List Tri} {i : Nat} {u : Tri} (h : us[i]? = some u) : (trip us)[i * 3 + 1]? = some u.2.1 := by simpa [triL] using trip_at us i 1 u h (by omega)
theorem trip_at2 {us : List Tri} {i : Nat} {u : Tri} (h : us[i]? = some u) : (trip us)[i * 3 + 2]? = some u.2.2 := by simpa [triL] using trip_at us i 2 u h (by omega)
theorem trip_set2 : ∀ (us : List Tri) (i : Nat) (u : Tri) (z : Value), us[i]? = some u → (trip us).set (i * 3 + 2) z = trip (us.set i (u.1, u.2.1, z))
  | y :: r, 0, u, z, h => by
    simp at h
    subst h
    simp [trip, triL]
  | y :: r, i + 1, u, z, h => by
    have ih := trip_set2 r i u z (by simpa using h)
    rw [trip_cons, List.set_append, if_neg (by simp [triL]; omega)]
    have e2 : (i + 1) * 3 + 2 - (triL y).length = i * 3 + 2 := by simp [triL]; omega
    rw [e2, ih]
    simp [trip_cons]

/-- a change's three cells, its lines in blocks of F -/
def ChAt (F : Nat → Prop) (w : World) (u : Tri) (c : Ch) : Prop :=
  ∃ oa oc na nc, u = (.int .i64 c.pos, .slice oa c.old.length oc, .slice na c.now.length nc) ∧ RdL F w oa c.old.length oc c.old ∧ RdL F w na c.now.length nc c.now
section
variable {F G : Nat → Prop} {w w' : World} {u : Tri} {c : Ch}
theorem ChAt.frF (h : ChAt F w u c) (hf : Fr G w w') (hd : ∀ k, F k → ¬ G k) : ChAt F w' u c := by
  obtain ⟨oa, oc, na, nc, e, h1, h2⟩ := h
  exact ⟨oa, oc, na, nc, e, h1.frF hf hd, h2.frF hf hd⟩
theorem ChAt.below (h : ChAt F w u c) (hb : Below w.heap.size w w') : ChAt F w' u c := by
  obtain ⟨oa, oc, na, nc, e, h1, h2⟩ := h
  exact ⟨oa, oc, na, nc, e, h1.below hb, h2.below hb⟩
theorem ChAt.mono (h : ChAt F w u c) (hg : ∀ k, F k → G k) : ChAt G w u c := by
  obtain ⟨oa, oc, na, nc, e, h1, h2⟩ := h
  exact ⟨oa, oc, na, nc, e, h1.mono hg, h2.mono hg⟩
theorem ChAt.one1 (h : ChAt F w u c) : ∀ v ∈ triL u, v.oneCell' = true := by
  obtain ⟨oa, oc, na, nc, rfl, h1, h2⟩ := h
  intro v hv
  simp [triL] at hv
  rcases hv with rfl | rfl | rfl <;> rfl
end

/-- what may be copied: its number fits, its lines are not too many -/
def OkC (c : Ch) : Prop := i64b c.pos ∧ (∀ x ∈ c.old, ∀ y ∈ x, (Lit.int .i32 y).wf = true) ∧ (∀ x ∈ c.now, ∀ y ∈ x, (Lit.int .i32 y).wf = true) ∧ sizeN (lens c.old) ≤ 1048576 ∧ sizeN (lens c.now) ≤ 1048576
theorem OkC.turn {c : Ch} (h : OkC c) : OkC (turnC c) := ⟨h.1, h.2.2.1, h.2.1, h.2.2.2.2, h.2.2.2.1⟩

/-- a row of changes that can be read -/
def RdCs (F : Nat → Prop) (w : World) (a : Option Addr) (n c : Nat) (cs : List Ch) : Prop :=
  ∃ us : List Tri, Rc w a n c 3 (trip us) ∧ InF F a n ∧ us.length = cs.length ∧ ∀ (i : Nat) (u : Tri) (x : Ch), us[i]? = some u → cs[i]? = some x → ChAt F w u x
section
variable {F G : Nat → Prop} {w w' : World} {a : Option Addr} {n c : Nat} {cs : List Ch}
theorem RdCs.len (h : RdCs F w a n c cs) : cs.length = n := by
  obtain ⟨us, h1, _, h2, _⟩ := h
  have := h1.1
  rw [trip_len] at this
  omega
theorem RdCs.small (h : RdCs F w a n c cs) : n ≤ 9223372036854775807 := by obtain ⟨us, h1, _⟩ := h; exact h1.small
theorem RdCs.none0 (F : Nat → Prop) (w : World) : RdCs F w none 0 0 [] := ⟨[], Rc.none0 _ _, InF.zero _ _, rfl, fun i u x h => by simp at h⟩
theorem RdCs.frF (h : RdCs F w a n c cs) (hf : Fr G w w') (hd : ∀ k, F k → ¬ G k) : RdCs F w' a n c cs := by
  obtain ⟨us, h1, h2, h3, h4⟩ := h
  exact ⟨us, h1.frF h2 hf hd, h2, h3, fun i u x e1 e2 => (h4 i u x e1 e2).frF hf hd⟩
theorem RdCs.below (h : RdCs F w a n c cs) (hb : Below w.heap.size w w') : RdCs F w' a n c cs := by
  obtain ⟨us, h1, h2, h3, h4⟩ := h
  exact ⟨us, h1.below hb, h2, h3, fun i u x e1 e2 => (h4 i u x e1 e2).below hb⟩
theorem RdCs.mono (h : RdCs F w a n c cs) (hg : ∀ k, F k → G k) : RdCs G w a n c cs := by
  obtain ⟨us, h1, h2, h3, h4⟩ := h
  exact ⟨us, h1, h2.mono hg, h3, fun i u x e1 e2 => (h4 i u x e1 e2).mono hg⟩
/-- the i-th change, read in a later world -/
theorem RdCs.get {W : World} {i : Nat} {x : Ch} (h : RdCs F w a n c cs) (hb : Below w.heap.size w W) (hx : cs[i]? = some x) :
    ∃ b off oa oc na nc, a = some ⟨b, off, none⟩ ∧ b < w.heap.size ∧ W.cell? ⟨b, off + i * 3, none⟩ = some (.int .i64 x.pos) ∧ W.cell? ⟨b, off + i * 3 + 1, none⟩ = some (.slice oa x.old.length oc) ∧ W.cell? ⟨b, off + i * 3 + 2, none⟩ = some (.slice na x.now.length nc) ∧
      RdL F W oa x.old.length oc x.old ∧ RdL F W na x.now.length nc x.now := by
  have hl := h.len
  obtain ⟨us, h1, h2, h3, h4⟩ := h
  have hi := (List.getElem?_eq_some_iff.1 hx).1
  obtain ⟨u, hu⟩ : ∃ u, us[i]? = some u := ⟨_, List.getElem?_eq_getElem (by omega)⟩
  obtain ⟨b, off, rfl, hbl, hc⟩ := h1.at_ (by omega)
  obtain ⟨oa, oc, na, nc, rfl, r1, r2⟩ := h4 i u x hu hx
  have c0 := hc _ _ (trip_at0 hu)
  have c1 := hc _ _ (trip_at1 hu)
  have c2 := hc _ _ (trip_at2 hu)
  rw [← Nat.add_assoc] at c1 c2
  exact ⟨b, off, oa, oc, na, nc, rfl, hbl, (hb.cell (p := ⟨b, off + i * 3, none⟩) hbl).trans c0, (hb.cell (p := ⟨b, off + i * 3 + 1, none⟩) hbl).trans c1, (hb.cell (p := ⟨b, off + i * 3 + 2, none⟩) hbl).trans c2, r1.below hb, r2.below hb⟩
end

/-- a row of changes that is the owner's: its block is the row's alone; its lines lie in F -/
def OwnCs (B : Nat) (F : Nat → Prop) (w : World) (v : Value) (cs : List Ch) : Prop :=
  ∃ us : List Tri, w.ownsRow B 24 3 v cs.length (trip us) ∧ us.length = cs.length ∧ ∀ (i : Nat) (u : Tri) (x : Ch), us[i]? = some u → cs[i]? = some x → ChAt F w u x
section
variable {B : Nat} {F G : Nat → Prop} {w w' : World} {v : Value} {cs : List Ch}
theorem OwnCs.nil (B : Nat) (F : Nat → Prop) (w : World) : OwnCs B F w (.slice none 0 0) [] := ⟨[], World.ownsRow_nil _ _ _ _, rfl, fun i u x h => by simp at h⟩
theorem OwnCs.slice (h : OwnCs B F w v cs) : ∃ a c, v = .slice a cs.length c := by obtain ⟨us, h1, _⟩ := h; exact own_slice h1
theorem OwnCs.lt (h : OwnCs B F w v cs) : ∀ k, v.ownBlock = some k → B ≤ k ∧ k < w.heap.size := by obtain ⟨us, h1, _⟩ := h; exact h1.lt
theorem OwnCs.fr (h : OwnCs B F w v cs) (hf : Fr G w w') (hv : ∀ k, v.ownBlock = some k → ¬ G k) (hd : ∀ k, F k → ¬ G k) : OwnCs B F w' v cs := by
  obtain ⟨us, h1, h2, h3⟩ := h
  exact ⟨us, own_fr h1 hf hv, h2, fun i u x e1 e2 => (h3 i u x e1 e2).frF hf hd⟩
theorem OwnCs.below (h : OwnCs B F w v cs) (hb : Below w.heap.size w w') : OwnCs B F w' v cs := h.fr (Fr.of_below (fun _ => False) hb) (fun _ _ h => h) (fun _ _ h => h)
theorem OwnCs.mono {B' : Nat} (h : OwnCs B F w v cs) (hB : B' ≤ B) (hg : ∀ k, F k → G k) : OwnCs B' G w v cs := by
  obtain ⟨us, h1, h2, h3⟩ := h
  exact ⟨us, own_mono h1 hB, h2, fun i u x e1 e2 => (h3 i u x e1 e2).mono hg⟩
theorem OwnCs.rd {a : Option Addr} {n c : Nat} (h : OwnCs B F w (.slice a n c) cs) (hv : ∀ k, (Value.slice a n c).ownBlock = some k → G k) (hg : ∀ k, F k → G k) : RdCs G w a n c cs := by
  obtain ⟨us, h1, h2, h3⟩ := h
  obtain ⟨a', c', e⟩ := own_slice h1
  injection e with e1 e2 e3
  subst e1 e2 e3
  exact ⟨us, Rc.own h1, InF.own h1 hv, h2, fun i u x e1 e2 => (h3 i u x e1 e2).mono hg⟩
end

theorem infoC : (Try.prog.info? 24).map (fun i => (i.zero, i.size, i.bytes)) = some (some (.agg #[.int .i64 0, .slice none 0 0, .slice none 0 0]), 3, 56) := by kernel_rfl

/-- one change more behind a row: w1 is above w, in which the change's cells are known -/
theorem app_ch {B : Nat} {F H : Nat → Prop} {w : World} {v : Value} {cs : List Ch} {u : Tri} {x : Ch} (h : OwnCs B F w v cs) (hu : ChAt H w u x) (hB : B ≤ w.heap.size) (hn : cs.length ≤ 1099511627776)
    (hF : ∀ k, F k → v.ownBlock ≠ some k) (hH : ∀ k, H k → v.ownBlock ≠ some k) :
    ∃ a' c' w', (∀ ty, (Builtin.append_ #[41, 41] ty #[v, .slice (some ⟨w.heap.size, 0, none⟩) 1 1]).run Try.prog (w.alloc (.cells #[u.1, u.2.1, u.2.2] 24)) = .ok (.slice a' (cs.length + 1) c') w') ∧
      OwnCs B (fun k => F k ∨ H k) w' (.slice a' (cs.length + 1) c') (cs ++ [x]) ∧ Fr (fun k => some k = v.ownBlock) w w' ∧
      ((Value.slice a' (cs.length + 1) c').ownBlock = v.ownBlock ∨ (Value.slice a' (cs.length + 1) c').ownBlock = some (w.heap.size + 1)) := by
  obtain ⟨us, h1, h2, h3⟩ := h
  obtain ⟨i0, hi0, hz0, hz1, hz2⟩ := info_parts infoC
  obtain ⟨w2, hw2⟩ : ∃ w2, w.alloc (.cells #[u.1, u.2.1, u.2.2] 24) = w2 := ⟨_, rfl⟩
  have hb2 : Below w.heap.size w w2 := by rw [← hw2]; exact (Below.refl _ _).alloc (Nat.le_refl _) _
  have hg2 : w2.heap[w.heap.size]? = some (.cells #[u.1, u.2.1, u.2.2] 24 (0, 0)) := by rw [← hw2]; exact heap_alloc_new w _
  have hsz2 : w2.heap.size = w.heap.size + 1 := by rw [← hw2]; simp
  have h12 := own_fr h1 (Fr.of_below (fun _ => False) hb2) (fun _ _ h => h)
  obtain ⟨v', w', hrun, hown, hfr, hnear⟩ := run_append_own_k (P := Try.prog) w2 B 41 24 i0 _ 3 56 Try.underlying41 hi0 hz0 hz1 hz2 rfl (by decide) v cs.length (trip us) h12 (some ⟨w.heap.size, 0, none⟩) 1 1 (triL u) rfl
    (fun _ => ⟨_, rfl, fun j y hy => by rw [add_lit, cell_row hg2, Nat.zero_add]; simpa [triL] using hy⟩) hu.one1 (by unfold maxLen; omega) (by omega) (by omega)
  obtain ⟨a', c', rfl⟩ := own_slice hown
  have hF2 : Fr (fun k => some k = v.ownBlock) w w' := (Fr.of_below (fun k => some k = v.ownBlock) hb2).trans hfr (fun _ _ h => h)
  refine ⟨a', c', w', by rw [hw2]; exact hrun, ⟨us ++ [u], by rw [trip_snoc, List.length_append]; exact hown, by simp [h2], ?_⟩, hF2, by rw [← hsz2]; exact hnear⟩
  intro i y z e1 e2
  by_cases hi : i < cs.length
  · rw [List.getElem?_append_left (by omega)] at e1
    rw [List.getElem?_append_left hi] at e2
    exact ((h3 i y z e1 e2).frF hF2 (fun k hk e => hF k hk e.symm)).mono (fun k hk => .inl hk)
  · have hil := (List.getElem?_eq_some_iff.1 e2).1
    simp only [List.length_append, List.length_cons, List.length_nil] at hil
    have hi0 : i = cs.length := by omega
    subst hi0
    rw [List.getElem?_append_right (by omega), h2] at e1
    rw [List.getElem?_append_right (by omega)] at e2
    simp at e1 e2
    subst e1 e2
    exact (hu.frF hF2 (fun k hk e => hH k hk e.symm)).mono (fun k hk => .inr hk)
/-- a row behind a row -/
theorem app_chs {B : Nat} {F H : Nat → Prop} {w : World} {v : Value} {cs ds : List Ch} {a : Option Addr} {m c : Nat} (h : OwnCs B F w v cs) (hr : RdCs H w a m c ds) (hB : B ≤ w.heap.size) (hn : cs.length + m ≤ 1099511627776)
    (hF : ∀ k, F k → v.ownBlock ≠ some k) (hH : ∀ k, H k → v.ownBlock ≠ some k) :
    ∃ a' c' w', (∀ ty, (Builtin.append_ #[41, 41] ty #[v, .slice a m c]).run Try.prog w = .ok (.slice a' (cs.length + m) c') w') ∧
      OwnCs B (fun k => F k ∨ H k) w' (.slice a' (cs.length + m) c') (cs ++ ds) ∧ Fr (fun k => some k = v.ownBlock) w w' := by
  have hl := hr.len
  obtain ⟨us, h1, h2, h3⟩ := h
  obtain ⟨ts, r1, r2, r3, r4⟩ := hr
  obtain ⟨i0, hi0, hz0, hz1, hz2⟩ := info_parts infoC
  have one : ∀ y ∈ trip ts, y.oneCell' = true := by
    intro y hy
    unfold trip at hy
    rw [List.mem_flatMap] at hy
    obtain ⟨u, hu, hy⟩ := hy
    obtain ⟨i, hi, rfl⟩ := List.getElem_of_mem hu
    exact (r4 i _ _ (List.getElem?_eq_getElem hi) (List.getElem?_eq_getElem (by omega))).one1 y hy
  obtain ⟨v', w', hrun, hown, hfr, hnear⟩ := run_append_own_k (P := Try.prog) w B 41 24 i0 _ 3 56 Try.underlying41 hi0 hz0 hz1 hz2 rfl (by decide) v cs.length (trip us) h1 a m c (trip ts) (by rw [trip_len]; omega)
    (fun hp => r1.src hp) one (by unfold maxLen; omega) (by omega) hB
  obtain ⟨a', c', rfl⟩ := own_slice hown
  refine ⟨a', c', w', hrun, ⟨us ++ ts, by rw [trip_append, List.length_append, hl]; exact hown, by simp [h2, r3], ?_⟩, hfr⟩
  intro i y z e1 e2
  by_cases hi : i < cs.length
  · rw [List.getElem?_append_left (by omega)] at e1
    rw [List.getElem?_append_left hi] at e2
    exact ((h3 i y z e1 e2).frF hfr (fun k hk e => hF k hk e.symm)).mono (fun k hk => .inl hk)
  · rw [List.getElem?_append_right (by omega)] at e1 e2
    rw [h2] at e1
    exact ((r4 _ y z e1 e2).frF hfr (fun k hk e => hH k hk e.symm)).mono (fun k hk => .inr hk)
end Go.Proofs.Ytalhiedbhcklgaa.U
