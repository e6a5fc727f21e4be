/-
  The contract of 'text': what is shown of a unit of a line.
-/
import Derived.Test.YthceooehndiglaaDoorCBehind
import Derived.Test.YthceooehndiglaaDoorCRep
import Derived.Deep.RegionHeld3
namespace Go.Proofs.YthceooehndiglaaDoor.U
open Go.RowKit
set_option linter.unusedVariables false
set_option linter.unusedSimpArgs false

theorem own_mono {w : World} {B B' : Nat} {e : TypeId} {s : Nat} {v : Value} {n : Nat} {xs : List Value} (h : w.ownsRow B e s v n xs) (hB : B' ≤ B) : w.ownsRow B' e s v n xs := by
  obtain ⟨h1, h2⟩ := h
  refine ⟨h1, ?_⟩
  rcases h2 with h2 | ⟨g, cap, cur, hv, hg, r⟩
  · exact .inl h2
  · exact .inr ⟨g, cap, cur, hv, by omega, r⟩
theorem gb_below' {w w' : World} (h : Below w.heap.size w w') : w.grownBy w' none := ⟨h.os, h.tape, h.output, h.size, fun k hk _ => h.block k hk⟩
theorem own_slice {w : World} {B : Nat} {e : TypeId} {s : Nat} {v : Value} {n : Nat} {xs : List Value} (h : w.ownsRow B e s v n xs) : ∃ a c, v = .slice a n c := by
  obtain ⟨h1, h2⟩ := h
  rcases h2 with ⟨rfl, rfl⟩ | ⟨g, cap, cur, hv, hg, r⟩
  · exact ⟨none, 0, rfl⟩
  · exact ⟨_, _, hv⟩
theorem own_below {w w' : World} {B : Nat} {e : TypeId} {s : Nat} {v : Value} {n : Nat} {xs : List Value} (h : w.ownsRow B e s v n xs) (hb : Below w.heap.size w w') (hB : B ≤ w.heap.size) : w'.ownsRow B e s v n xs :=
  h.kept (row := none) (gb_below' hb) (by cases hv : v.ownBlock <;> simp)
theorem gb_below {w w' : World} (h : Below w.heap.size w w') (row : Option Nat) : w.grownBy w' row := ⟨h.os, h.tape, h.output, h.size, fun k hk _ => h.block k hk⟩
theorem own_grown {w w' : World} {B b : Nat} {e : TypeId} {s : Nat} {v : Value} {n : Nat} {xs : List Value} (h : w.ownsRow B e s v n xs) (hg : w.grownBy w' (some b)) (hB : b < B) : w'.ownsRow B e s v n xs :=
  h.kept hg (.inr fun hv => by have := (h.lt b hv).1; omega)

theorem text_tab (b off len cap : Nat) (line : List Int) (fr to col wd : Nat) (w : World) (hb : b < w.heap.size) (h1 : fr < len) (hlen : len ≤ 100000) (hw : wd ≤ 64) (hc : w.cell? ⟨b, off + fr, none⟩ = some (.int .i32 9)) :
    Calls Tryd.prog 32 #[.slice (some ⟨b, off, none⟩) len cap, unV ⟨fr, to, col, wd⟩] w fun e w' => ∃ v, e = .returned v ∧
      w'.ownsRow w.heap.size 21 1 v wd ((List.replicate wd (32 : Int)).map (Value.int .i32)) ∧ Below w.heap.size w w' := by
  unfold unV
  go_enter Tryd.func32, Tryd.ntmps32
  go_wp2_with (go_at_call 36; refine (repeat_any (w.heap.size + 1) 32 wd _ (by go_simp) (by omega)).mono ?_; rintro e w2 ⟨v, rfl, hown, hb2⟩)
  go_ret
  refine ⟨_, rfl, ?_, ?_⟩
  · rw [List.map_replicate]
    exact own_mono hown (by simp; omega)
  · exact (((Below.refl _ w).alloc (Nat.le_refl _) _).alloc (by simp) _).trans (hb2.mono (by simp; omega))

theorem text_zero (b off len cap : Nat) (line : List Int) (fr to col wd : Nat) (w : World) (hb : b < w.heap.size) (hr : Rd .i32 w (some ⟨b, off, none⟩) len cap line) (hg : Gl w) (h1 : fr < to) (h2 : to ≤ len) (hlen : len ≤ 100000)
    (hc : w.cell? ⟨b, off + fr, none⟩ = some (.int .i32 (rn line fr))) (h9 : rn line fr ≠ 9) (hz : widthM (rn line fr) = 0) :
    Calls Tryd.prog 32 #[.slice (some ⟨b, off, none⟩) len cap, unV ⟨fr, to, col, wd⟩] w fun e w' => ∃ v, e = .returned v ∧
      w'.ownsRow w.heap.size 21 1 v (1 + (to - fr)) ((32 :: (line.take to).drop fr).map (Value.int .i32)) ∧ Below w.heap.size w w' := by
  obtain ⟨i0, hi, hz0, hz1, hz2⟩ := info_parts infoR
  have hcap := hr.2.1
  have hR0 := (hr.take to h2).drop fr (by omega)
  rw [if_neg (by omega)] at hR0
  have hR : Hid (Rd .i32 w (some ⟨b, off + fr, none⟩) (to - fr) (cap - fr) ((line.take to).drop fr)) := by
    have e : Option.map (fun x : Addr => x.add (fr * 1)) (some ⟨b, off, none⟩) = some ⟨b, off + fr, none⟩ := by simp [Addr.add]
    rw [e] at hR0
    exact hR0
  clear hR0
  have HZ := Lib.hid hz; clear hz
  have HG := Lib.hid hg; clear hg
  have hne : (rn line fr == 9) = false := by simpa using h9
  obtain ⟨r, hrr⟩ : ∃ r, rn line fr = r := ⟨_, rfl⟩
  rw [hrr] at hc hne HZ
  have HB := Lib.hid (((Below.refl w.heap.size w).alloc (Nat.le_refl _) (.cells #[.int .i64 fr, .int .i64 to, .int .i64 col, .int .i64 wd, .slice none 0 0] 39)).alloc (by simp) (.cells #[.int .i32 32] 21))
  have HO : Hid (((w.alloc (.cells #[.int .i64 fr, .int .i64 to, .int .i64 col, .int .i64 wd, .slice none 0 0] 39)).alloc (.cells #[.int .i32 32] 21)).ownsRow w.heap.size 21 1 (.slice (some ⟨w.heap.size + 1, 0, none⟩) 1 1) 1 [.int .i32 32]) := by
    refine own_of_row (g := w.heap.size + 1) (cs := [.int .i32 32]) ?_ (by omega) ⟨rfl, rfl⟩ (by unfold maxLen; omega)
    have h := heap_alloc_new (w.alloc (.cells #[.int .i64 fr, .int .i64 to, .int .i64 col, .int .i64 wd, .slice none 0 0] 39)) (.cells #[.int .i32 32] 21)
    rw [World.size_alloc] at h
    exact h
  clear hr h9 hrr
  have hcf : ¬ cap = fr := by omega
  unfold unV
  go_enter Tryd.func32, Tryd.ntmps32
  go_wp2_with (first
    | (go_at_call 10; refine (width_is r 0 _ (HG.out.alloc _) HZ).mono ?_; rintro e w' ⟨rfl, rfl⟩)
    | (at_builtin; go_must (refine wpList_appRd rfl (.tmp 22) (.tmp 28) 24 rfl w.heap.size 21 i0 (.int .i32 0) 4 Tryd.underlying24 hi hz0 hz1 hz2 rfl _ _ _ rfl HO.out .i32 _ _ _ _ rfl ((hR.out.alloc _).alloc _) (by unfold maxLen; omega) (by omega) (by simp; omega) ?_); intro v' w3 hown' hb3))
  go_ret
  exact ⟨_, rfl, by simpa using hown', HB.out.trans hb3⟩

theorem show_own (r : Int) (w : World) :
    Calls Tryd.prog 13 #[.int .i32 r] w fun e w' => ∃ v, e = .returned v ∧ w'.ownsRow w.heap.size 21 1 v (showM r).length ((showM r).map (Value.int .i32)) ∧ Below w.heap.size w w' := by
  refine (show_any r w).mono ?_
  rintro e w' ⟨cs, rfl, rfl, hcs⟩
  have hl : cs.length = (showM r).length := by rw [hcs]; simp
  refine ⟨_, rfl, ?_, (Below.refl _ w).alloc (Nat.le_refl _) _⟩
  rw [← hl]
  exact own_of_row (heap_alloc_new w _) (Nat.le_refl _) ⟨hcs, rfl⟩ (by rw [hl, show_len]; unfold maxLen; split <;> omega)

/-- Append what can be read, as one step of a region that draws its order. -/
theorem step_appRd {P : Program} {w : World} {ops : Array Oper} {o : Oper} {a : Act} {K : Act → World → Prop} {Q : Exit → Act → World → Prop} {E : Prop} (hgd : o.guard = none) (s x : Operand) (t : TypeId)
    (ho : o.op = .call { callee := .builtin .append, args := #[s, x], argTypes := #[t, t] })
    (base : Nat) (e : TypeId) (i : TypeInfo) (z : Value) (bytes : Nat) (ht : P.underlying t = some (.slice e)) (hi : P.info? e = some i) (hz : i.zero = some z)
    (hsize : i.size = 1) (hby : i.bytes = bytes) (hzs : z.cells.size = 1)
    (v : Value) (n : Nat) (xs : List Value) (hs : a.eval s = v) (hown : w.ownsRow base e 1 v n xs)
    (k : IntKind) (b off : Nat) (m c : Nat) (ys : List Int) (hx : a.eval x = .slice (some ⟨b, off, none⟩) m c) (hrd : Rd k w (some ⟨b, off, none⟩) m c ys)
    (h63 : n + m ≤ maxLen) (hbytes : (n + m) * bytes ≤ 140737488355328) (hbase : base ≤ w.heap.size)
    (h : ∀ v' w', w'.ownsRow base e 1 v' (n + m) (xs ++ ys.map (Value.int k)) → Below base w w' → K (a.put o.dst v') w') :
    if Region.wanted o (yielded ops a.tmps) = true then Oper.wp P o a w K Q else E := by
  have hw : Region.wanted o (yielded ops a.tmps) = true := by simp [Region.wanted, hgd]
  rw [if_pos hw]
  obtain ⟨r1, r2, r3, r4, r6, r5⟩ := hrd
  refine wp_append_own w s x t ho base e i z 1 bytes ht hi hz hsize hby hzs (by decide) v n xs hs hown ⟨b, off, none⟩ m c (ys.map (Value.int k)) hx (by simpa using r1) ?_ ?_ h63 hbytes hbase ?_
  · intro j u hu
    rw [List.getElem?_map] at hu
    by_cases hj : j < ys.length
    · rw [List.getElem?_eq_getElem hj] at hu
      simp only [Option.map_some, Option.some.injEq] at hu
      subst hu
      obtain ⟨b', off', ha, hc⟩ := r5 (by omega)
      simp only [Option.some.injEq, Addr.mk.injEq, and_true] at ha
      obtain ⟨rfl, rfl⟩ := ha
      have := hc j (by omega)
      rw [List.getD_eq_getElem?_getD, List.getElem?_eq_getElem hj] at this
      by_cases h0 : j = 0
      · subst h0; simpa [Addr.add] using this
      · simpa [Addr.add, h0] using this
    · rw [List.getElem?_eq_none (by omega)] at hu; simp at hu
  · intro u hu
    simp only [List.mem_map] at hu
    obtain ⟨x, _, rfl⟩ := hu
    rfl
  · intro v' w' h2 h3 _
    exact h v' w' h2 ((Below.refl base w).grown h3 hbase (fun k hk => (hown.lt k hk).1))

theorem text_keep {w W W' : World} {fr to : Nat} (h : W.cell? ⟨w.heap.size, 0, none⟩ = some (.int .i64 fr) ∧ W.cell? ⟨w.heap.size, 1, none⟩ = some (.int .i64 to) ∧ Below w.heap.size w W) (hb : Below (w.heap.size + 1) W W') :
    W'.cell? ⟨w.heap.size, 0, none⟩ = some (.int .i64 fr) ∧ W'.cell? ⟨w.heap.size, 1, none⟩ = some (.int .i64 to) ∧ Below w.heap.size w W' := by
  obtain ⟨h1, h2, h3⟩ := h
  exact ⟨(hb.cell (p := ⟨w.heap.size, 0, none⟩) (Nat.lt_succ_self _)).trans h1, (hb.cell (p := ⟨w.heap.size, 1, none⟩) (Nat.lt_succ_self _)).trans h2, h3.trans (hb.mono (Nat.le_succ _))⟩

set_option maxHeartbeats 1000000 in
theorem text_restA (b off len cap : Nat) (ys : List Int) (fr f1 to col wd n : Nat) (r : Int) (w : World) (hb : b < w.heap.size) (HR : Hid (Rd .i32 w (some ⟨b, off + f1, none⟩) (to - f1) (cap - f1) ys)) (HG : Hid (Gl w)) (hf : (fr : Int) + 1 = f1) (h1 : f1 ≤ to) (h2 : to ≤ len) (hlen : len ≤ 100000)
    (hcap : len ≤ cap) (hc : w.cell? ⟨b, off + fr, none⟩ = some (.int .i32 r)) (hne : (r == 9) = false) (HZ : Hid (widthM r = n)) (hn : 1 ≤ n) (hcf : ¬ cap = f1) :
    Calls Tryd.prog 32 #[.slice (some ⟨b, off, none⟩) len cap, unV ⟨fr, to, col, wd⟩] w fun e w' => ∃ v, e = .returned v ∧
      w'.ownsRow w.heap.size 21 1 v ((showM r).length + (to - f1)) ((showM r).map (Value.int .i32) ++ ys.map (Value.int .i32)) ∧ Below w.heap.size w w' := by
  obtain ⟨i0, hi, hz0, hz1, hz2⟩ := info_parts infoR
  have i1 : (0 : Int) ≤ (f1 : Int) := by omega
  have i2 : (f1 : Int) ≤ (to : Int) := by omega
  have i3 : (to : Int) ≤ (cap : Int) := by omega
  have hwr : IntKind.i64.wrap ((fr : Int) + 1) = (f1 : Int) := by rw [IntKind.wrap_i64]; omega
  have hwr2 : IntKind.i64.wrap (f1 : Int) = (f1 : Int) := by rw [IntKind.wrap_i64]; omega
  have hs2 : (showM r).length ≤ 2 := by rw [show_len]; split <;> omega
  have hd0 : ((n : Int) == 0) = false := by simp; omega
  have HB := Lib.hid ((Below.refl w.heap.size w).alloc (Nat.le_refl _) (.cells #[.int .i64 fr, .int .i64 to, .int .i64 col, .int .i64 wd, .slice none 0 0] 39))
  have HRA := Lib.hid (HR.out.alloc (.cells #[.int .i64 fr, .int .i64 to, .int .i64 col, .int .i64 wd, .slice none 0 0] 39))
  unfold unV
  go_enter Tryd.func32, Tryd.ntmps32
  go_wp2_with (go_at_call 10; refine (width_is r n _ (HG.out.alloc _) HZ).mono ?_; rintro e w' ⟨rfl, rfl⟩)
  go_region_held3 (fun w' => w'.cell? ⟨w.heap.size, 0, none⟩ = some (.int .i64 fr) ∧ w'.cell? ⟨w.heap.size, 1, none⟩ = some (.int .i64 to) ∧ Below w.heap.size w w')
    (first | exact ⟨by go_simp, by go_simp, HB.out.drew⟩ | (refine text_keep ?_ hb3; first | assumption | exact ⟨by assumption, by assumption, by assumption⟩) | (refine text_keep ?_ hb2; first | assumption | exact ⟨by assumption, by assumption, by assumption⟩) | go_keep)
    (first
      | (go_at_call 13; refine (show_own r _).mono ?_; rintro e w2 ⟨v2, rfl, hown2, hb2⟩; replace hown2 := own_mono (B' := w.heap.size + 1) hown2 (by simp); have hr2 := HRA.out.drew.below hb2; replace hb2 := hb2.mono (B' := w.heap.size + 1) (by simp); have le2 : w.heap.size + 1 ≤ w2.heap.size := (by have := hb2.size; simp at this; omega))
      | ((refine step_appRd rfl (.tmp 31) (.tmp 38) 24 (by rfl) (w.heap.size + 1) 21 i0 (.int .i32 0) 4 Tryd.underlying24 hi hz0 hz1 hz2 rfl _ _ _ (by rfl) hown2 .i32 _ _ _ _ _ (by rfl) hr2 (by unfold maxLen; omega) (by omega) le2 ?_; intro v' w3 hown' hb3)))
  all_goals
    go_wp2_with fail
    go_ret
    exact ⟨_, rfl, own_mono hown' (by omega), (HB.out.drew.trans (hb2.mono (by omega))).trans (hb3.mono (by omega))⟩

set_option maxHeartbeats 1000000 in
theorem text_restB (b off len cap : Nat) (ys : List Int) (fr f1 to col wd n : Nat) (r : Int) (w : World) (hb : b < w.heap.size) (HR : Hid (Rd .i32 w (some ⟨b, off, none⟩) (to - f1) (cap - f1) ys)) (HG : Hid (Gl w)) (hf : (fr : Int) + 1 = f1) (h1 : f1 ≤ to) (h2 : to ≤ len) (hlen : len ≤ 100000)
    (hcap : len ≤ cap) (hc : w.cell? ⟨b, off + fr, none⟩ = some (.int .i32 r)) (hne : (r == 9) = false) (HZ : Hid (widthM r = n)) (hn : 1 ≤ n) (hcf : (cap = f1) = True) :
    Calls Tryd.prog 32 #[.slice (some ⟨b, off, none⟩) len cap, unV ⟨fr, to, col, wd⟩] w fun e w' => ∃ v, e = .returned v ∧
      w'.ownsRow w.heap.size 21 1 v ((showM r).length + (to - f1)) ((showM r).map (Value.int .i32) ++ ys.map (Value.int .i32)) ∧ Below w.heap.size w w' := by
  obtain ⟨i0, hi, hz0, hz1, hz2⟩ := info_parts infoR
  have i1 : (0 : Int) ≤ (f1 : Int) := by omega
  have i2 : (f1 : Int) ≤ (to : Int) := by omega
  have i3 : (to : Int) ≤ (cap : Int) := by omega
  have hwr : IntKind.i64.wrap ((fr : Int) + 1) = (f1 : Int) := by rw [IntKind.wrap_i64]; omega
  have hwr2 : IntKind.i64.wrap (f1 : Int) = (f1 : Int) := by rw [IntKind.wrap_i64]; omega
  have hs2 : (showM r).length ≤ 2 := by rw [show_len]; split <;> omega
  have hd0 : ((n : Int) == 0) = false := by simp; omega
  have HB := Lib.hid ((Below.refl w.heap.size w).alloc (Nat.le_refl _) (.cells #[.int .i64 fr, .int .i64 to, .int .i64 col, .int .i64 wd, .slice none 0 0] 39))
  have HRA := Lib.hid (HR.out.alloc (.cells #[.int .i64 fr, .int .i64 to, .int .i64 col, .int .i64 wd, .slice none 0 0] 39))
  unfold unV
  go_enter Tryd.func32, Tryd.ntmps32
  go_wp2_with (go_at_call 10; refine (width_is r n _ (HG.out.alloc _) HZ).mono ?_; rintro e w' ⟨rfl, rfl⟩)
  go_region_held3 (fun w' => w'.cell? ⟨w.heap.size, 0, none⟩ = some (.int .i64 fr) ∧ w'.cell? ⟨w.heap.size, 1, none⟩ = some (.int .i64 to) ∧ Below w.heap.size w w')
    (first | exact ⟨by go_simp, by go_simp, HB.out.drew⟩ | (refine text_keep ?_ hb3; first | assumption | exact ⟨by assumption, by assumption, by assumption⟩) | (refine text_keep ?_ hb2; first | assumption | exact ⟨by assumption, by assumption, by assumption⟩) | go_keep)
    (first
      | (go_at_call 13; refine (show_own r _).mono ?_; rintro e w2 ⟨v2, rfl, hown2, hb2⟩; replace hown2 := own_mono (B' := w.heap.size + 1) hown2 (by simp); have hr2 := HRA.out.drew.below hb2; replace hb2 := hb2.mono (B' := w.heap.size + 1) (by simp); have le2 : w.heap.size + 1 ≤ w2.heap.size := (by have := hb2.size; simp at this; omega))
      | ((refine step_appRd rfl (.tmp 31) (.tmp 38) 24 (by rfl) (w.heap.size + 1) 21 i0 (.int .i32 0) 4 Tryd.underlying24 hi hz0 hz1 hz2 rfl _ _ _ (by rfl) hown2 .i32 _ _ _ _ _ (by rfl) hr2 (by unfold maxLen; omega) (by omega) le2 ?_; intro v' w3 hown' hb3)))
  all_goals
    go_wp2_with fail
    go_ret
    exact ⟨_, rfl, own_mono hown' (by omega), (HB.out.drew.trans (hb2.mono (by omega))).trans (hb3.mono (by omega))⟩

theorem text_any (a : Option Addr) (len cap : Nat) (line : List Int) (w : World) (hr : Rd .i32 w a len cap line) (hg : Gl w) (u : Un) (h1 : u.fr < u.to) (h2 : u.to ≤ len) (hlen : len ≤ 100000) (hw : u.wd ≤ 64) :
    Calls Tryd.prog 32 #[.slice a len cap, unV u] w fun e w' => ∃ v, e = .returned v ∧
      w'.ownsRow w.heap.size 21 1 v (textM line u).length ((textM line u).map (Value.int .i32)) ∧ Below w.heap.size w w' := by
  obtain ⟨fr, to, col, wd⟩ := u
  simp only at h1 h2 hw
  obtain ⟨b, off, rfl, hb, hc⟩ := rd_rn hr (by omega)
  have hl := hr.len
  unfold textM
  simp only
  by_cases h9 : rn line fr = 9
  · rw [if_pos h9]
    rw [show (List.replicate wd (32 : Int)).length = wd from by simp]
    exact text_tab b off len cap line fr to col wd w hb (by omega) hlen hw (by rw [hc fr (by omega), h9])
  rw [if_neg h9]
  have hzz := widthM_zero (rn line fr)
  by_cases hz : zeroB (rn line fr) = true
  · rw [if_pos hz]
    have e : (32 :: (line.take to).drop fr).length = 1 + (to - fr) := by simp; omega
    rw [e]
    exact text_zero b off len cap line fr to col wd w hb hr hg h1 h2 hlen (hc fr (by omega)) h9 (hzz.2 hz)
  · rw [if_neg hz]
    have e : (showM (rn line fr) ++ (line.take to).drop (fr + 1)).length = (showM (rn line fr)).length + (to - (fr + 1)) := by simp; omega
    rw [e, List.map_append]
    have hn : 1 ≤ widthM (rn line fr) := by
      by_cases h : widthM (rn line fr) = 0
      · exact absurd (hzz.1 h) hz
      · omega
    have hR := (hr.take to h2).drop (fr + 1) (by omega)
    by_cases hcf : cap = fr + 1
    · rw [if_pos hcf] at hR
      exact text_restB b off len cap _ fr (fr + 1) to col wd _ (rn line fr) w hb hR hg (by omega) (by omega) h2 hlen hr.2.1 (hc fr (by omega)) (by simpa using h9) rfl hn (eq_true hcf)
    · rw [if_neg hcf] at hR
      have e2 : Option.map (fun x : Addr => x.add ((fr + 1) * 1)) (some ⟨b, off, none⟩) = some ⟨b, off + (fr + 1), none⟩ := by simp [Addr.add]
      rw [e2] at hR
      exact text_restA b off len cap _ fr (fr + 1) to col wd _ (rn line fr) w hb hR hg (by omega) (by omega) h2 hlen hr.2.1 (hc fr (by omega)) (by simpa using h9) rfl hn hcf
end Go.Proofs.YthceooehndiglaaDoor.U
