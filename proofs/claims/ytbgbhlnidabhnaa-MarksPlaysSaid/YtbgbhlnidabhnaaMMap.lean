/-
  A map from runes to places: its block known entry by entry; look up, store, delete, range over it.
-/
import Derived.Test.YtbgbhlnidabhnaaMMove
import Derived.Maps.RangeWalk
namespace Go.Proofs.Ytbgbhlnidabhnaa.U
open Go.RowKit Go.ChangeMaps Go.MapKept
set_option linter.unusedVariables false
set_option linter.unusedSimpArgs false
set_option maxRecDepth 100000

/-- an entry: key, place, when it was laid -/
structure En where
  r : Int
  p : Po
  b : Nat
  deriving DecidableEq, Inhabited
def En.e (x : En) : MapEntry := ⟨.int .i32 x.r, x.p.v, x.b⟩
theorem Po.v_inj {p q : Po} (h : p.v = q.v) : p = q := by
  obtain ⟨a, b⟩ := p
  obtain ⟨c, d⟩ := q
  simp [Po.v] at h
  simp [h.1, h.2]
structure MapAt (w : World) (mb : Nat) (L : List En) (clock : Nat) : Prop where
  at_ : w.heap[mb]? = some (.map (L.map En.e).toArray clock)
  keys : (L.map (·.r)).Nodup
  borns : (L.map (·.b)).Nodup
  young : ∀ x ∈ L, x.b < clock
  wf : ∀ x ∈ L, (Lit.int .i32 x.r).wf = true
theorem keyedR : Go.Maps.Keyed Try.prog 21 := Go.Maps.int_keyed Try.underlying21
theorem keyR {r : Int} (h : (Lit.int .i32 r).wf = true) : keyOf Try.prog 21 (.int .i32 r) = some (.int .i32 r) := Go.Maps.keyOf_int_mk Try.underlying21 h
section
variable {w w' : World} {mb clock : Nat} {L : List En}
theorem MapAt.lt (h : MapAt w mb L clock) : mb < w.heap.size := (Array.getElem?_eq_some_iff.1 h.at_).1
theorem MapAt.keep (h : MapAt w mb L clock) (hb : w'.heap[mb]? = w.heap[mb]?) : MapAt w' mb L clock := ⟨hb.trans h.at_, h.keys, h.borns, h.young, h.wf⟩
theorem MapAt.fr {F : Nat → Prop} (h : MapAt w mb L clock) (hf : Fr F w w') (hF : ¬ F mb) : MapAt w' mb L clock := h.keep (hf.block mb h.lt hF)
theorem MapAt.new (w : World) : MapAt (w.alloc (.map #[] 0)) w.heap.size [] 0 := ⟨(MapKept.heap_alloc w _).1, by simp, by simp, by simp, by simp⟩
theorem MapAt.find (h : MapAt w mb L clock) {r : Int} (hr : (Lit.int .i32 r).wf = true) :
    ((Instr.findKey 21 (.int .i32 r) (L.map En.e)).run Try.prog w = .ok none w ∧ ∀ x ∈ L, x.r ≠ r) ∨
    ∃ j x, (Instr.findKey 21 (.int .i32 r) (L.map En.e)).run Try.prog w = .ok (some (j, x.p.v)) w ∧ L[j]? = some x ∧ x.r = r := by
  rcases keyedR.find w (keyR hr) (L.map En.e) (fun e he => by
    obtain ⟨x, hx, rfl⟩ := List.mem_map.1 he
    exact ⟨_, keyR (h.wf x hx)⟩) with ⟨h1, h2⟩ | ⟨j, e, h1, h2, h3⟩
  · refine .inl ⟨h1, fun x hx e => h2 _ (List.mem_map.2 ⟨x, hx, rfl⟩) (by simp [En.e, e])⟩
  · rw [List.getElem?_map] at h2
    cases hx : L[j]? with
    | none => rw [hx] at h2; simp at h2
    | some x =>
      rw [hx] at h2
      simp only [Option.map_some, Option.some.injEq] at h2
      subst h2
      refine .inr ⟨j, x, h1, hx, ?_⟩
      simpa [En.e] using h3
/-- what a key has -/
def lookL (L : List En) (r : Int) : Option Po := (L.find? (fun x => x.r == r)).map (·.p)
theorem lookL_none {L : List En} {r : Int} (h : ∀ x ∈ L, x.r ≠ r) : lookL L r = none := by
  unfold lookL
  rw [List.find?_eq_none.2 (fun x hx => by simpa using h x hx)]
  rfl
theorem lookL_some {L : List En} {x : En} (hn : (L.map (·.r)).Nodup) (hx : x ∈ L) : lookL L x.r = some x.p := by
  induction L with
  | nil => cases hx
  | cons y t ih =>
    simp only [List.map_cons, List.nodup_cons] at hn
    unfold lookL
    rw [List.find?_cons]
    rcases List.mem_cons.1 hx with rfl | hx
    · simp
    · have : (y.r == x.r) = false := by
        simp only [beq_eq_false_iff_ne]
        exact fun e => hn.1 (e ▸ List.mem_map.2 ⟨x, hx, rfl⟩)
      rw [this]
      exact ih hn.2 hx
theorem MapAt.look (h : MapAt w mb L clock) {r : Int} (hr : (Lit.int .i32 r).wf = true) :
    (Instr.lookup 58 (.map (some mb)) (.int .i32 r) true).run Try.prog w = .ok (ansV (lookL L r)) w := by
  rcases h.find hr with ⟨h1, h2⟩ | ⟨j, x, h1, h2, rfl⟩
  · have hz : (zeroValue 23).run Try.prog w = .ok (po0.v) w := by kernel_rfl
    rw [lookL_none h2]
    simp [Instr.lookup, run_underlying Try.underlying58, MapKept.run_getObj_map h.at_, keyedR.check w _ (keyR hr), h1, hz, Result.andThen, ansV]
  · rw [lookL_some h.keys (List.mem_of_getElem? h2)]
    simp [Instr.lookup, run_underlying Try.underlying58, MapKept.run_getObj_map h.at_, keyedR.check w _ (keyR hr), h1, Result.andThen, ansV]
/-- a store -/
def updL (L : List En) (r : Int) (p : Po) (clock : Nat) : List En := if L.any (·.r == r) then L.map (fun x => if x.r = r then { x with p := p } else x) else L ++ [⟨r, p, clock⟩]
theorem set_map_key {L : List En} {j : Nat} {x : En} (hn : (L.map (·.r)).Nodup) (hj : L[j]? = some x) (p : Po) : L.set j { x with p := p } = L.map (fun y => if y.r = x.r then { y with p := p } else y) := by
  induction L generalizing j with
  | nil => simp at hj
  | cons y t ih =>
    simp only [List.map_cons, List.nodup_cons] at hn
    cases j with
    | zero =>
      simp at hj
      subst hj
      simp only [List.set_cons_zero, List.map_cons, if_true, List.cons.injEq, true_and]
      symm
      have : ∀ z ∈ t, (if z.r = y.r then { z with p := p } else z) = z := fun z hz => if_neg (fun e => hn.1 (List.mem_map.2 ⟨z, hz, e⟩))
      rw [List.map_congr_left this, List.map_id'']
      intro z; rfl
    | succ j =>
      simp at hj
      have hne : y.r ≠ x.r := fun e => hn.1 (e ▸ List.mem_map.2 ⟨x, List.mem_of_getElem? hj, rfl⟩)
      simp only [List.set_cons_succ, List.map_cons, if_neg hne]
      rw [ih hn.2 hj]
theorem fr_setBlock {w : World} {b : Nat} {o o' : Obj} (hb : w.heap[b]? = some o) : Fr (fun k => k = b) w (setBlock w b o') :=
  ⟨rfl, rfl, rfl, by simp [setBlock], fun i _ hi => by
    show (w.heap.set! b o')[i]? = _
    rw [Array.set!_eq_setIfInBounds, Array.getElem?_setIfInBounds_ne (fun e => hi e.symm)]⟩
theorem MapAt.upd (h : MapAt w mb L clock) {r : Int} (hr : (Lit.int .i32 r).wf = true) (p : Po) :
    ∃ w' clock', (Instr.mapUpdate 58 (.map (some mb)) (.int .i32 r) p.v).run Try.prog w = .ok () w' ∧ MapAt w' mb (updL L r p clock) clock' ∧ Fr (fun k => k = mb) w w' ∧ w'.heap.size = w.heap.size ∧ (L.any (·.r == r) = true → clock' = clock) := by
  rcases h.find hr with ⟨h1, h2⟩ | ⟨j, x, h1, h2, rfl⟩
  · have hany : L.any (·.r == r) = false := by
      rw [List.any_eq_false]
      intro x hx
      simpa using h2 x hx
    refine ⟨setBlock w mb (.map ((L.map En.e).toArray.push ⟨.int .i32 r, p.v, clock⟩) (clock + 1)), clock + 1, ?_, ⟨?_, ?_, ?_, ?_, ?_⟩, fr_setBlock h.at_, by simp [setBlock], fun e => by rw [hany] at e; cases e⟩
    · simp [Instr.mapUpdate, run_underlying Try.underlying58, MapKept.run_getObj_map h.at_, keyedR.check w false (keyR hr), h1, MapKept.run_setObj_map _ h.at_, Result.andThen, setBlock]
    · rw [heap_setBlock_same h.at_]
      simp [updL, hany, En.e]
    · simp only [updL, hany, Bool.false_eq_true, if_false, List.map_append, List.map_cons, List.map_nil]
      rw [List.nodup_append]
      refine ⟨h.keys, by simp, fun a ha b hb => ?_⟩
      obtain ⟨x, hx, rfl⟩ := List.mem_map.1 ha
      simp at hb
      subst hb
      exact h2 x hx
    · simp only [updL, hany, Bool.false_eq_true, if_false, List.map_append, List.map_cons, List.map_nil]
      rw [List.nodup_append]
      refine ⟨h.borns, by simp, fun a ha b hb => ?_⟩
      obtain ⟨x, hx, rfl⟩ := List.mem_map.1 ha
      simp at hb
      subst hb
      have := h.young x hx
      omega
    · intro x hx
      simp only [updL, hany, Bool.false_eq_true, if_false, List.mem_append, List.mem_singleton] at hx
      rcases hx with hx | rfl
      · have := h.young x hx; omega
      · simp
    · intro x hx
      simp only [updL, hany, Bool.false_eq_true, if_false, List.mem_append, List.mem_singleton] at hx
      rcases hx with hx | rfl
      · exact h.wf x hx
      · exact hr
  · have hany : L.any (·.r == x.r) = true := List.any_eq_true.2 ⟨x, List.mem_of_getElem? h2, by simp⟩
    have hj : (L.map En.e).toArray[j]? = some x.e := by simp [h2]
    have hlist : ((L.map En.e).toArray.modify j (fun e' => { e' with key := .int .i32 x.r, val := p.v })) = ((updL L x.r p clock).map En.e).toArray := by
      apply Array.toList_inj.1
      rw [Array.toList_modify, modify_eq_set _ _ _ x.e (by simp [h2])]
      simp only [updL, hany, if_true, List.toList_toArray]
      rw [← set_map_key h.keys h2 p, List.map_set]
      rfl
    have e1 : (updL L x.r p clock).map (·.r) = L.map (·.r) := by
      simp only [updL, hany, if_true, List.map_map]
      refine List.map_congr_left (fun y _ => ?_)
      simp only [Function.comp_apply]
      split <;> rfl
    have e2 : (updL L x.r p clock).map (·.b) = L.map (·.b) := by
      simp only [updL, hany, if_true, List.map_map]
      refine List.map_congr_left (fun y _ => ?_)
      simp only [Function.comp_apply]
      split <;> rfl
    refine ⟨setBlock w mb (.map ((updL L x.r p clock).map En.e).toArray clock), clock, ?_, ⟨heap_setBlock_same h.at_ _, by rw [e1]; exact h.keys, by rw [e2]; exact h.borns, ?_, ?_⟩, fr_setBlock h.at_, by simp [setBlock], fun _ => rfl⟩
    · rw [← hlist]
      have hk : x.e.key = .int .i32 x.r := rfl
      have hmk : (L.map En.e)[j]? = some x.e := by simp [h2]
      simp [Instr.mapUpdate, run_underlying Try.underlying58, MapKept.run_getObj_map h.at_, keyedR.check w false (keyR hr), h1, h2, hk, keyedR.stays w (keyR hr), MapKept.run_setObj_map _ h.at_, Result.andThen, setBlock]
    · intro y hy
      have : y.b ∈ (updL L x.r p clock).map (·.b) := List.mem_map.2 ⟨y, hy, rfl⟩
      rw [e2] at this
      obtain ⟨z, hz, e⟩ := List.mem_map.1 this
      rw [← e]
      exact h.young z hz
    · intro y hy
      have : y.r ∈ (updL L x.r p clock).map (·.r) := List.mem_map.2 ⟨y, hy, rfl⟩
      rw [e1] at this
      obtain ⟨z, hz, e⟩ := List.mem_map.1 this
      rw [← e]
      exact h.wf z hz
theorem filter_key_erase {L : List En} {j : Nat} {x : En} (hn : (L.map (·.r)).Nodup) (hj : L[j]? = some x) : L.eraseIdx j = L.filter (fun y => y.r != x.r) := by
  induction L generalizing j with
  | nil => simp at hj
  | cons y t ih =>
    simp only [List.map_cons, List.nodup_cons] at hn
    cases j with
    | zero =>
      simp at hj
      subst hj
      rw [List.eraseIdx_cons_zero, List.filter_cons]
      simp only [bne_self_eq_false, Bool.false_eq_true, if_false]
      symm
      rw [List.filter_eq_self]
      intro z hz
      simp only [bne_iff_ne, ne_eq]
      exact fun e => hn.1 (List.mem_map.2 ⟨z, hz, e⟩)
    | succ j =>
      simp at hj
      have hne : y.r ≠ x.r := fun e => hn.1 (e ▸ List.mem_map.2 ⟨x, List.mem_of_getElem? hj, rfl⟩)
      rw [List.eraseIdx_cons_succ, List.filter_cons, if_pos (by simpa using hne), ih hn.2 hj]
theorem MapAt.sub {L' : List En} {w' : World} (h : MapAt w mb L clock) (hs : L'.Sublist L) (ha : w'.heap[mb]? = some (.map (L'.map En.e).toArray clock)) : MapAt w' mb L' clock :=
  ⟨ha, (hs.map _).nodup h.keys, (hs.map _).nodup h.borns, fun x hx => h.young x (hs.subset hx), fun x hx => h.wf x (hs.subset hx)⟩
theorem MapAt.del (h : MapAt w mb L clock) {r : Int} (hr : (Lit.int .i32 r).wf = true) :
    ∃ w', (∀ ty, (Builtin.delete_ #[58, 21] ty #[.map (some mb), .int .i32 r]).run Try.prog w = .ok (.tuple #[]) w') ∧ MapAt w' mb (L.filter (fun y => y.r != r)) clock ∧ Fr (fun k => k = mb) w w' ∧ w'.heap.size = w.heap.size := by
  rcases h.find hr with ⟨h1, h2⟩ | ⟨j, x, h1, h2, rfl⟩
  · have e : L.filter (fun y => y.r != r) = L := List.filter_eq_self.2 (fun x hx => by simpa using h2 x hx)
    rw [e]
    refine ⟨setBlock w mb (.map (L.map En.e).toArray clock), fun ty => ?_, h.sub (List.Sublist.refl _) (heap_setBlock_same h.at_ _), fr_setBlock h.at_, by simp [setBlock]⟩
    simp [Builtin.delete_, run_underlying Try.underlying58, MapKept.run_getObj_map h.at_, keyedR.check w _ (keyR hr), h1, MapKept.run_setObj_map _ h.at_, Result.andThen, setBlock]
  · have hjl : j < L.length := (List.getElem?_eq_some_iff.1 h2).1
    have e : (L.map En.e).toArray.eraseIdxIfInBounds j = ((L.filter (fun y => y.r != x.r)).map En.e).toArray := by
      unfold Array.eraseIdxIfInBounds
      rw [dif_pos (by simpa using hjl)]
      apply Array.toList_inj.1
      rw [← filter_key_erase h.keys h2]
      simp [map_eraseIdx]
    refine ⟨setBlock w mb (.map ((L.filter (fun y => y.r != x.r)).map En.e).toArray clock), fun ty => ?_, h.sub List.filter_sublist (heap_setBlock_same h.at_ _), fr_setBlock h.at_, by simp [setBlock]⟩
    rw [← e]
    simp [Builtin.delete_, run_underlying Try.underlying58, MapKept.run_getObj_map h.at_, keyedR.check w _ (keyR hr), h1, MapKept.run_setObj_map _ h.at_, Result.andThen, setBlock]
end
end Go.Proofs.Ytbgbhlnidabhnaa.U
