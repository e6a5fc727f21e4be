/-
  A range over the map of marks; Names.
-/
import Derived.Test.YtbgbhlnidabhnaaMBack
import Derived.Test.YtbgbhlnidabhnaaSPdq
import Derived.Maps.RangeRun
namespace Go.Proofs.Ytbgbhlnidabhnaa.U
open Go.RowKit Go.ChangeMaps
set_option linter.unusedVariables false
set_option linter.unusedSimpArgs false
set_option maxRecDepth 100000

/-- 'next' of a range over such a map, whatever the order -/
theorem wpl_next_m {w : World} {ops : Array Oper} {rest : List Oper} {o : Oper} {a : Act} {Q : Exit → Act → World → Prop} (hg : o.guard = none) (it : Operand) (hop : o.op = Op.next it false) (r mb clock : Nat) (L : List En) (seen : List Nat)
    (hit : a.eval it = .pointer (some ⟨r, 0, none⟩)) (hr : w.heap[r]? = some (.mapIter (some mb) clock seen.toArray clock)) (hm : MapAt w mb L clock) (hne : r ≠ mb)
    (hDone : (∀ x ∈ L, x.b ∈ seen) → wpList Try.prog ops Q rest (a.put o.dst (.tuple #[.bool false])) w)
    (hMore : ∀ x, x ∈ L → x.b ∉ seen → ∀ w', w'.heap[r]? = some (.mapIter (some mb) clock (seen ++ [x.b]).toArray clock) → Fr (fun k => k = r) w w' → w'.heap.size = w.heap.size →
      (Instr.entry (.pointer (some ⟨r, 0, none⟩))).run Try.prog w' = .ok (.tuple #[.int .i32 x.r, x.p.v]) w' → wpList Try.prog ops Q rest (a.put o.dst (.tuple #[.bool true, .int .i32 x.r, x.p.v])) w') :
    wpList Try.prog ops Q (o :: rest) a w := by
  refine wpList_plain hg fun K' hK' => ?_
  unfold Oper.wp
  rcases run_next_at (P := Try.prog) w o.type r mb clock clock seen.toArray (L.map En.e).toArray clock hr hm.at_ (fun e he => by
    simp only [List.mem_map] at he
    obtain ⟨x, hx, rfl⟩ := he
    exact hm.young x hx) (Nat.le_refl _) with ⟨h0, hrun⟩ | ⟨e, he, w1, hw1, hrun⟩
  · simp [execOp, hop, hit, hrun, Result.andThen]
    refine hK' _ _ (hDone fun x hx => ?_)
    have h1 : leftOf (L.map En.e).toArray seen.toArray = #[] := Array.eq_empty_of_size_eq_zero h0
    unfold leftOf at h1
    rw [Array.filter_eq_empty_iff] at h1
    have h2 := h1 x.e (by simp; exact ⟨x, hx, rfl⟩)
    simpa [En.e] using h2
  · simp only [leftOf, Array.toList_filter, List.mem_filter, List.mem_map] at he
    obtain ⟨⟨x, hx, rfl⟩, hns⟩ := he
    have hns2 : x.b ∉ seen := by simpa [En.e] using hns
    have hr1 : w1.heap[r]? = some (.mapIter (some mb) clock seen.toArray clock) := by rcases hw1 with rfl | rfl <;> exact hr
    have hf1 : Fr (fun k => k = r) w w1 := by 
      rcases hw1 with h | h <;> rw [h]
      · exact Fr.refl _ w
      · exact (Fr.refl _ w).drew
    have hb : (setBlock w1 r (.mapIter (some mb) clock (seen ++ [x.b]).toArray clock)).heap[r]? = some (.mapIter (some mb) clock (seen ++ [x.b]).toArray clock) := by
      show (w1.heap.set! r _)[r]? = _
      rw [Array.set!_eq_setIfInBounds, Array.getElem?_setIfInBounds_self_of_lt (Array.getElem?_eq_some_iff.1 hr1).1]
    have hfr := hf1.trans (fr_setBlock (o' := .mapIter (some mb) clock (seen ++ [x.b]).toArray clock) hr1) (fun _ _ h => h)
    have hrun2 : (Instr.next (.pointer (some ⟨r, 0, none⟩)) false o.type).run Try.prog w = .ok (.tuple #[.bool true, .int .i32 x.r, x.p.v]) (setBlock w1 r (.mapIter (some mb) clock (seen ++ [x.b]).toArray clock)) := by
      rw [hrun]
      simp [En.e]
    have hen : (Instr.entry (.pointer (some ⟨r, 0, none⟩))).run Try.prog (setBlock w1 r (.mapIter (some mb) clock (seen ++ [x.b]).toArray clock)) = .ok (.tuple #[.int .i32 x.r, x.p.v]) (setBlock w1 r (.mapIter (some mb) clock (seen ++ [x.b]).toArray clock)) := by
      have := run_entry_at (P := Try.prog) (setBlock w1 r (.mapIter (some mb) clock (seen ++ [x.b]).toArray clock)) r mb clock seen.toArray (L.map En.e).toArray clock x.e (by rw [hb]; simp [En.e]) (by rw [hfr.block mb hm.lt (fun e => hne e.symm)]; exact hm.at_) (by simp; exact ⟨x, hx, rfl⟩) (by
        simp only [List.map_map]
        exact hm.borns)
      exact this
    simp [execOp, hop, hit, hrun2, Result.andThen]
    exact hK' _ _ (hMore x hx hns2 _ hb hfr (by rcases hw1 with rfl | rfl <;> simp [setBlock]) hen)

theorem short_of : ∀ (l A : List Int), l.Nodup → (∀ x ∈ l, x ∈ A) → l.length ≤ A.length
  | [], _, _, _ => Nat.zero_le _
  | x :: t, A, hn, hs => by
    rw [List.nodup_cons] at hn
    have hx := hs x (by simp)
    have := short_of t (A.erase x) hn.2 (fun y hy => (List.mem_erase_of_ne (fun e => hn.1 (by rw [← e]; exact hy))).2 (hs y (by simp [hy])))
    rw [List.length_erase_of_mem hx] at this
    have := List.length_pos_of_mem hx
    simp
    omega
/-- a row that the call has made, as a row that can be sorted -/
theorem own_rowS {w : World} {B : Nat} {a : Option Addr} {n cap : Nat} {ks : List Int} (h : w.ownsRow B 21 1 (.slice a n cap) n (ints ks)) :
    (a = none ∧ n = 0 ∧ cap = 0 ∧ ks = []) ∨ ∃ g, a = some ⟨g, 0, none⟩ ∧ B ≤ g ∧ RowS w g cap ks.toArray ∧ ks.length = n ∧ n ≤ cap ∧ cap ≤ maxLen := by
  obtain ⟨h1, h2⟩ := h
  rcases h2 with ⟨hv, hn⟩ | ⟨g, c, cur, hv, hg, hh, hnc, hcm, hcs, ht⟩
  · injection hv with q1 q2 q3
    subst q1
    subst q3
    exact .inl ⟨rfl, hn, rfl, by subst hn; simpa [ints] using h1⟩
  · injection hv with q1 q2 q3
    subst q1
    subst q3
    have hlen : ks.length = n := by simpa [ints] using h1
    refine .inr ⟨g, rfl, hg, ⟨cur.toList.drop n, ?_, ?_⟩, hlen, hnc, hcm⟩
    · have : ks.map (Value.int .i32) = cur.toList.take n := by
        have := ht
        rw [Nat.mul_one] at this
        exact this.symm
      rw [List.toList_toArray, this, List.take_append_drop]
      exact hh
    · simp only [List.length_drop, List.size_toArray, Array.length_toList]
      omega
theorem RowS.rd {w : World} {g cap : Nat} {d : Array Int} (h : RowS w g cap d) (hc : d.size ≤ cap) (hm : cap ≤ maxLen) (hw : ∀ x ∈ d.toList, (Lit.int .i32 x).wf = true) : Rd .i32 w (some ⟨g, 0, none⟩) d.size cap d.toList := by
  refine ⟨by simp, hc, hm, hw, (fun h => by cases h), fun hp => ⟨g, 0, rfl, fun i hi => ?_⟩⟩
  rw [Nat.zero_add, h.at_ hi]
  simp [List.getD_eq_getElem?_getD, hi]

theorem names_len {ks : List Int} (hn : ks.Nodup) (h : ∀ x ∈ ks, nameB x = true) : ks.length < 50 := by
  have := short_of ks ([96, 46, 94, 91, 93, 60, 62] ++ (List.range 26).map (fun k => (97 : Int) + (k : Nat))) hn (fun x hx => by
    have := h x hx
    simp only [nameB, decide_eq_true_eq] at this
    simp only [List.mem_append, List.mem_cons, List.mem_map, List.mem_range, List.not_mem_nil, or_false]
    rcases this with h | h | h | h | h | h | h | h
    · left; omega
    · left; omega
    · left; omega
    · left; omega
    · left; omega
    · left; omega
    · left; omega
    · right; exact ⟨(x - 97).toNat, by omega, by omega⟩)
  simp at this
  omega

theorem insertion_nil (w : World) : Calls Try.prog 43 #[.slice none 0 0, .int .i64 0, .int .i64 0] w fun e w' => e = .returned (.tuple #[]) ∧ w' = w := by
  go_enter Try.func43, Try.ntmps43
  go_wp2
  refine wp_loop_rounds 1 ?_
  rw [rounds_succ]
  go_wp2
  go_end0
  exact ⟨rfl, rfl⟩
theorem pdq_nil (w : World) (k : Nat) : Calls Try.prog 41 #[.slice none 0 0, .int .i64 0, .int .i64 0, .int .i64 k] w fun e w' => e = .returned (.tuple #[]) ∧ w' = w := by
  go_enter Try.func41, Try.ntmps41
  go_wp2
  refine wp_loop_rounds 1 ?_
  rw [rounds_succ]
  go_wp2_with (go_at_call 43; refine (insertion_nil _).mono ?_; rintro e w' ⟨rfl, rfl⟩)
  first | go_end0 | go_ret | refine bodyPost_ret (results_none rfl _ _ _) rfl ?_
  exact ⟨rfl, rfl⟩
theorem sort_nil (w : World) : Calls Try.prog 39 #[.slice none 0 0] w fun e w' => e = .returned (.tuple #[]) ∧ w' = w := by
  have hb := fun W => blen_any 0 W (by omega)
  obtain ⟨k, hk⟩ : ∃ k, Lib.bitLen 0 = k := ⟨_, rfl⟩
  rw [hk] at hb
  have HB := Lib.hid hb
  clear hb hk
  go_enter Try.func39, Try.ntmps39
  go_wp2_with (first | (go_at_call 42; refine (HB.out _).mono ?_; rintro ev w' ⟨rfl, rfl⟩) | (go_at_call 41; refine (pdq_nil _ k).mono ?_; rintro ev w9 ⟨rfl, rfl⟩))
  first | go_end0 | go_ret
  exact ⟨rfl, rfl⟩

/-- what was seen of a map: some of its entries, each once -/
def Seen (L S : List En) : Prop := (∀ x ∈ S, x ∈ L) ∧ (S.map (·.b)).Nodup
theorem Seen.add {L S : List En} {x : En} (h : Seen L S) (hx : x ∈ L) (hn : x.b ∉ S.map (·.b)) : Seen L (S ++ [x]) := by
  refine ⟨fun y hy => ?_, ?_⟩
  · rcases List.mem_append.1 hy with h1 | h1
    · exact h.1 y h1
    · rw [List.mem_singleton.1 h1]; exact hx
  · rw [List.map_append, List.map_cons, List.map_nil]
    refine List.nodup_append.2 ⟨h.2, by simp, fun a ha b hb e => ?_⟩
    rw [List.mem_singleton.1 hb] at e
    exact hn (e ▸ ha)
theorem Seen.all {L S : List En} (h : Seen L S) (hb : (L.map (·.b)).Nodup) (ha : ∀ x ∈ L, x.b ∈ S.map (·.b)) : S.Perm L := by
  rw [List.perm_ext_iff_of_nodup (nodup_of_map h.2) (nodup_of_map hb)]
  intro x
  refine ⟨h.1 x, fun hx => ?_⟩
  obtain ⟨y, hy, e⟩ := List.mem_map.1 (ha x hx)
  have hyL := h.1 y hy
  have : y = x := by
    have hp := List.pairwise_iff_getElem.1 (List.pairwise_map.1 hb)
    obtain ⟨i, hi, rfl⟩ := List.getElem_of_mem hyL
    obtain ⟨j, hj, rfl⟩ := List.getElem_of_mem hx
    rcases Nat.lt_trichotomy i j with q | q | q
    · exact absurd e (hp i j hi hj q)
    · subst q; rfl
    · exact absurd e.symm (hp j i hj hi q)
  rw [← this]
  exact hy
theorem Seen.le {L S : List En} (h : Seen L S) (hb : (L.map (·.b)).Nodup) : S.length ≤ L.length := by
  have h1 : ∀ (l A : List En), l.Nodup → (∀ x ∈ l, x ∈ A) → l.length ≤ A.length := by
    intro l
    induction l with
    | nil => intro A _ _; exact Nat.zero_le _
    | cons x t ih =>
      intro A hn hs
      rw [List.nodup_cons] at hn
      have hx := hs x (by simp)
      have := ih (A.erase x) hn.2 (fun y hy => (List.mem_erase_of_ne (fun e => hn.1 (by rw [← e]; exact hy))).2 (hs y (by simp [hy])))
      rw [List.length_erase_of_mem hx] at this
      have := List.length_pos_of_mem hx
      simp
      omega
  exact h1 S L (nodup_of_map h.2) h.1

def lenV : Value → Nat
  | .slice _ n _ => n
  | _ => 0
set_option maxHeartbeats 1000000 in
theorem names_any {P : Nat → Prop} {bt : Nat} {s : Ms} {B : Int} (w : World) (h : MkS P w bt s) (hok : s.ok B) :
    Calls Try.prog 27 #[.pointer (some ⟨bt, 0, none⟩)] w fun e w' => ∃ (a : Option Addr) (n c : Nat), e = .returned (.slice a n c) ∧ Hid (Rd .i32 w' a n c (s.ns.map (·.1)) ∧ Below w.heap.size w w') := by
  obtain ⟨mb, ja, jc, L, clock, h1, h2, h3, h4, p1, p2, p3, p4⟩ := h
  have e0 : w.cell? ⟨bt, 0, none⟩ = some (.map (some mb)) := by rw [cell_row h1]; rfl
  have hrg := run_range_map (P := Try.prog) w 58 _ _ mb _ clock Try.underlying58 h2.at_
  obtain ⟨wa, hwa⟩ : ∃ wa, w.alloc (.mapIter (some mb) clock #[] clock) = wa := ⟨_, rfl⟩
  obtain ⟨r, hr⟩ : ∃ r, w.heap.size = r := ⟨_, rfl⟩
  rw [hwa, hr] at hrg
  have hmr : mb < r := by have := h2.lt; omega
  have HR : Hid (wa.heap[r]? = some (.mapIter (some mb) clock ([] : List Nat).toArray clock) ∧ Below r w wa) := by
    rw [← hwa, ← hr]
    exact ⟨heap_alloc_new w _, (Below.refl _ w).alloc (Nat.le_refl _) _⟩
  have HM := Lib.hid h2
  have hL50 : L.length < 50 := by
    have e := h3.length_eq
    have := names_len (sorted_nodup hok.sorted) (fun x hx => by
      obtain ⟨y, hy, e⟩ := List.mem_map.1 hx
      rw [← e]
      exact hok.names y hy)
    simp only [List.length_map] at e this
    omega
  have HP := Lib.hid (And.intro h3 hr)
  clear h1 h2 h3 h4 p1 p2 p3 p4 hwa hr
  go_enter Try.func27, Try.ntmps27
  go_wp2
  go_loopw [3] (fun v wr => ∃ (a : Option Addr) (n c : Nat) (S : List En), v = .slice a n c ∧ n = S.length ∧ Hid (Seen L S ∧ wr.heap[r]? = some (.mapIter (some mb) clock (S.map (·.b)).toArray clock) ∧ Below r w wr ∧ wr.ownsRow (r + 1) 21 1 (.slice a n c) n (ints (S.map (·.r))))) (fun v _ => L.length - lenV v)
  case atStart => exact ⟨none, 0, 0, [], rfl, rfl, ⟨by simp, by simp⟩, HR.out.1, HR.out.2, World.ownsRow_nil _ _ _ _⟩
  case round =>
    obtain ⟨a, n, c, S, rfl, hnS, HS⟩ := hrel
    obtain ⟨hseen, hit, hbel, hown⟩ := HS.out
    have hm : MapAt wr mb L clock := HM.out.keep (hbel.block mb hmr)
    have HS2 := Lib.hid (And.intro hseen hown)
    clear hseen hown HR
    go_wp2_with (first
      | (at_next; refine wpl_next_m rfl _ rfl r mb clock L (S.map (·.b)) rfl hit hm (by omega) ?_ ?_)
      | (at_builtin; go_must (with_reducible refine Lib.wpList_append_run _ rfl _ _ _ _ rfl _ _ rfl rfl _ _ (HRUN.out _) ?_)))
    · intro hall
      have HALL := Lib.hid hall
      have hnd : (s.ns.map (·.1)).Nodup := sorted_nodup hok.sorted
      have hperm : (S.map (·.r)).Perm (s.ns.map (·.1)) := by
        have h1 := HS2.out.1.all hm.borns (fun x hx => List.mem_map.2 (HALL.out x hx))
        have h2 := (h1.map En.s).trans HP.out.1
        have h3 := h2.map (·.1)
        rw [List.map_map] at h3
        exact h3
      have hlen := names_len (hperm.nodup_iff.2 hnd) (fun x hx => by
        obtain ⟨y, hy, e⟩ := List.mem_map.1 (hperm.mem_iff.1 hx)
        rw [← e]
        exact hok.names y hy)
      have hwf : ∀ x ∈ s.ns.map (·.1), (Lit.int .i32 x).wf = true := fun x hx => by
        obtain ⟨y, hy, e⟩ := List.mem_map.1 hx
        rw [← e]
        exact nameB_wf (hok.names y hy)
      rcases own_rowS HS2.out.2 with ⟨ha, hn0, hc, hks⟩ | ⟨g, ha, hg, hrow, hkl, hnc, hcm⟩
      · subst ha
        subst hc
        have hz0 : S.length = 0 := by omega
        have HF : Hid (Rd .i32 wr none 0 0 (s.ns.map (·.1)) ∧ Below w.heap.size w wr) := by
          rw [hks] at hperm
          rw [hperm.symm.eq_nil, HP.out.2]
          exact ⟨Rd.none0 _ _, hbel⟩
        clear hks hperm hall hn0
        rw [hz0]
        go_wp2_with (go_at_call 39; refine (sort_nil _).mono ?_; rintro ev w' ⟨rfl, rfl⟩)
        go_ret
        exact ⟨none, 0, 0, rfl, HF⟩
      · subst ha
        have hgr : r < g := by omega
        have hSl : S.length = n := hnS.symm
        have HSORT : Hid (Calls Try.prog 39 #[.slice (some ⟨g, 0, none⟩) S.length c] wr fun ev w' => ev = .returned (.tuple #[]) ∧ Hid (FinS wr w' g c S.length 0 S.length (S.map (·.r)).toArray)) :=
          Lib.hid (sort_any g c S.length (S.map (fun x => x.r)).toArray wr hrow (by simp) (by simpa using hlen) (by simpa using hperm.nodup_iff.2 hnd))
        have HX : Hid ((S.map (·.r)).Perm (s.ns.map (·.1)) ∧ (∀ x ∈ s.ns.map (·.1), (Lit.int .i32 x).wf = true) ∧ n ≤ c ∧ c ≤ maxLen ∧ S.length = n) := ⟨hperm, hwf, hnc, hcm, hSl⟩
        clear hperm hall hwf hnd hlen hrow hkl hSl
        go_wp2_with (go_at_call 39; refine HSORT.out.mono ?_; rintro ev w' ⟨rfl, HF⟩)
        go_ret
        refine ⟨some ⟨g, 0, none⟩, S.length, c, rfl, ?_⟩
        obtain ⟨d', k1, k2, k3, k4, k5⟩ := HF.out
        obtain ⟨x1, x2, x3, x4, x5⟩ := HX.out
        have hp := perm_all k3 (by simp) (Nat.le_refl _)
        have heq : d'.toList = s.ns.map (·.1) := by
          have hp2 : d'.toList.Perm (s.ns.map (·.1)) := hp.trans (by simpa using x1)
          refine List.Perm.eq_of_pairwise (le := fun a b : Int => a < b) (fun a b _ _ h1 h2 => by omega) ?_ ?_ hp2
          · rw [List.pairwise_iff_getElem]
            intro i j hi hj hij
            have hnd := hp2.nodup_iff.2 (sorted_nodup hok.sorted)
            simp only [Array.length_toList] at hi hj
            have h1 := k4 i j (Nat.zero_le _) hij (by omega)
            have h2 := nodup_ne hnd hi hj (by omega)
            simp [Sort.ltInt, hi, hj] at h1 h2 ⊢
            omega
          · rw [List.pairwise_map]
            exact hok.sorted
        have hrd := k2.rd (by omega) x4 (by rw [heq]; exact x2)
        rw [heq, k1] at hrd
        exact ⟨hrd, HP.out.2 ▸ (hbel.trans (k5.below (Nat.le_of_lt (by have := heap_lt hit; exact this)) (fun k e => by omega)))⟩
    · intro x hx hxs w2 hit2 hf2 hz2 hen
      subst hnS
      have hadd := HS2.out.1.add hx (fun h => by obtain ⟨y, hy, e⟩ := List.mem_map.1 h; exact hxs y hy e)
      have hlt : S.length + 1 ≤ L.length := by have := hadd.le hm.borns; simpa using this
      have hrlt := heap_lt hit
      have hown2 := own_fr HS2.out.2 hf2 (fun k e => by have := (HS2.out.2.lt k e).1; omega)
      have hb2 : Below w2.heap.size w2 (w2.alloc (.cells #[.int .i32 x.r] 21)) := (Below.refl _ _).alloc (Nat.le_refl _) _
      obtain ⟨a', c', w3, hrun, hown3, hb3⟩ := app_rd (w2.alloc (.cells #[.int .i32 x.r] 21)) (r + 1) (.slice a S.length c) S.length (S.map (fun x => x.r)) (some ⟨w2.heap.size, 0, none⟩) 1 1 [x.r] (hown2.alloc _) (by simp; omega) (Rd_new .i32 w2 [x.r] #[.int .i32 x.r] 21 1 rfl rfl (by decide) (fun y hy => by rw [List.mem_singleton.1 hy]; exact hm.wf x hx)) (by omega)
      have HRUN := Lib.hid hrun
      have HN : Hid (Seen L (S ++ [x]) ∧ w3.heap[r]? = some (.mapIter (some mb) clock ((S ++ [x]).map (·.b)).toArray clock) ∧ Below r w w3 ∧ w3.ownsRow (r + 1) 21 1 (.slice a' (S.length + 1) c') (S.length + 1) (ints ((S ++ [x]).map (·.r)))) := by
        refine ⟨hadd, ?_, ?_, ?_⟩
        · rw [hb3.block r (by omega), hb2.block r (by omega), hit2]
          simp
        · have h1 := hf2.below (B := r) (by omega) (fun k hk => by omega)
          exact ((hbel.trans h1).trans (hb2.mono (by omega))).trans (hb3.mono (by omega))
        · simpa using hown3
      clear hrun hown3 hb3 hb2 hown2 hadd hit2 hit hm hbel hf2 HS2 HS
      clear hz2
      go_wp2_with (at_builtin; go_must (with_reducible refine Lib.wpList_append_run _ rfl _ _ _ _ rfl _ _ rfl rfl _ _ (HRUN.out _) ?_))
      go_roundw
      case rel => exact ⟨a', _, c', S ++ [x], rfl, by simp, HN⟩
      case measure => simp [lenV]; omega
end Go.Proofs.Ytbgbhlnidabhnaa.U
