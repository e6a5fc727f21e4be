/-
  Picked by wip/tools/pick.py: what other layers use of lines, rows and their readings.
-/
import Derived.Test.YtfldjoiohejilaaChecked
import Derived.Test.YtfldjoiohejilaaUBase
import Derived.Test.YtfldjoiohejilaaPFr
import Derived.Test.YtfldjoiohejilaaNPure
import Derived.Test.YtfldjoiohejilaaJBase
import Derived.Deep.QuietTactic
import Derived.BigQuiet
import Derived.RegionTactic
import Derived.Deep.RegionLaw
import Derived.Lib.AppendZeros
namespace Go.Proofs.Ytfldjoiohejilaa.U
open Go.RowKit
set_option linter.unusedVariables false
set_option linter.unusedSimpArgs false
set_option maxRecDepth 100000

/-- rows that lie in blocks of G alone, each apart -/
def RowsO (G : Nat → Prop) (w : World) (vs : List Value) (L : List (List Int)) : Prop :=
  vs.length = L.length ∧ (∀ (i : Nat) (x : List Int), L[i]? = some x → ∃ v, vs[i]? = some v ∧ w.ownsRow 0 21 1 v x.length (ints x) ∧ (∀ k, v.ownBlock = some k → G k) ∧ ∀ y ∈ x, (Lit.int .i32 y).wf = true) ∧
    (∀ (i j : Nat) (vi vj : Value), i < j → vs[i]? = some vi → vs[j]? = some vj → ∀ k, vi.ownBlock = some k → vj.ownBlock ≠ some k)
def OwnL (G : Nat → Prop) (w : World) (a : Option Addr) (n c : Nat) (L : List (List Int)) : Prop :=
  ∃ vs, w.ownsRow 0 35 1 (.slice a n c) n vs ∧ (∀ k, (Value.slice a n c).ownBlock = some k → G k) ∧ RowsO G w vs L
section
variable {F G G2 : Nat → Prop} {w w' : World} {vs us : List Value} {L M : List (List Int)} {a : Option Addr} {n c : Nat}
theorem RowsO.fr (h : RowsO G w vs L) (hf : Fr F w w') (hd : ∀ k, G k → ¬ F k) : RowsO G w' vs L :=
  ⟨h.1, fun i x hx => by obtain ⟨v, e1, e2, e3, e4⟩ := h.2.1 i x hx; exact ⟨v, e1, own_fr e2 hf (fun k e => hd k (e3 k e)), e3, e4⟩, h.2.2⟩
end
section
variable {F G G2 : Nat → Prop} {w w' : World} {vs us : List Value} {L M : List (List Int)} {a : Option Addr} {n c : Nat}
theorem RowsO.mono (h : RowsO G w vs L) (hg : ∀ k, k < w.heap.size → G k → G2 k) : RowsO G2 w vs L :=
  ⟨h.1, fun i x hx => by obtain ⟨v, e1, e2, e3, e4⟩ := h.2.1 i x hx; exact ⟨v, e1, e2, fun k e => hg k (e2.lt k e).2 (e3 k e), e4⟩, h.2.2⟩
end
section
variable {F G G2 : Nat → Prop} {w w' : World} {vs us : List Value} {L M : List (List Int)} {a : Option Addr} {n c : Nat}
theorem RowsO.nil : RowsO G w [] [] := ⟨rfl, fun i x h => by simp at h, fun i j vi vj _ h => by simp at h⟩
end
section
variable {F G G2 : Nat → Prop} {w w' : World} {vs us : List Value} {L M : List (List Int)} {a : Option Addr} {n c : Nat}
theorem RowsO.append (h : RowsO G w vs L) (k : RowsO G2 w us M) (hd : ∀ x, G x → ¬ G2 x) : RowsO (fun x => G x ∨ G2 x) w (vs ++ us) (L ++ M) := by
  have hl := h.1
  have kl := k.1
  refine ⟨by simp [hl, kl], fun i x hx => ?_, fun i j vi vj hij e1 e2 b eb => ?_⟩
  · by_cases hi : i < L.length
    · rw [List.getElem?_append_left hi] at hx
      obtain ⟨v, e1, e2, e3, e4⟩ := h.2.1 i x hx
      exact ⟨v, by rw [List.getElem?_append_left (by omega)]; exact e1, e2, fun b e => .inl (e3 b e), e4⟩
    · rw [List.getElem?_append_right (by omega)] at hx
      obtain ⟨v, e1, e2, e3, e4⟩ := k.2.1 _ x hx
      exact ⟨v, by rw [List.getElem?_append_right (by omega), hl]; exact e1, e2, fun b e => .inr (e3 b e), e4⟩
  · have hj := (List.getElem?_eq_some_iff.1 e2).1
    rw [List.length_append] at hj
    by_cases hi : i < vs.length
    · rw [List.getElem?_append_left hi] at e1
      obtain ⟨v, f1, f2, f3, f4⟩ := h.2.1 i _ (List.getElem?_eq_getElem (l := L) (i := i) (by omega))
      rw [e1] at f1
      cases f1
      by_cases hj2 : j < vs.length
      · rw [List.getElem?_append_left hj2] at e2
        exact h.2.2 i j vi vj hij e1 e2 b eb
      · rw [List.getElem?_append_right (by omega)] at e2
        obtain ⟨u, g1, g2, g3, g4⟩ := k.2.1 (j - vs.length) _ (List.getElem?_eq_getElem (l := M) (i := j - vs.length) (by omega))
        rw [e2] at g1
        cases g1
        exact fun e => hd b (f3 b eb) (g3 b e)
    · rw [List.getElem?_append_right (by omega)] at e1 e2
      exact k.2.2 (i - vs.length) (j - vs.length) vi vj (by omega) e1 e2 b eb
end
section
variable {F G G2 : Nat → Prop} {w w' : World} {vs us : List Value} {L M : List (List Int)} {a : Option Addr} {n c : Nat}
theorem RowsO.drop (h : RowsO G w vs L) (m : Nat) : RowsO G w (vs.drop m) (L.drop m) := by
  refine ⟨by simp [h.1], fun i x hx => ?_, fun i j vi vj hij e1 e2 => ?_⟩
  · rw [List.getElem?_drop] at hx
    obtain ⟨v, e1, e2⟩ := h.2.1 _ x hx
    exact ⟨v, by rw [List.getElem?_drop]; exact e1, e2⟩
  · rw [List.getElem?_drop] at e1 e2
    exact h.2.2 _ _ vi vj (by omega) e1 e2
end
section
variable {F G G2 : Nat → Prop} {w w' : World} {vs us : List Value} {L M : List (List Int)} {a : Option Addr} {n c : Nat}
theorem RowsO.at_ (h : RowsO G w vs L) : RowsAt G w vs L := ⟨h.1, fun i x hx => by
  obtain ⟨v, e1, e2, e3, e4⟩ := h.2.1 i x hx
  obtain ⟨ra, rc, rfl⟩ := own_slice e2
  exact ⟨ra, rc, e1, own_rd e2 e4, InF.own e2 e3⟩⟩
end
section
variable {F G G2 : Nat → Prop} {w w' : World} {vs us : List Value} {L M : List (List Int)} {a : Option Addr} {n c : Nat}
theorem OwnL.len (h : OwnL G w a n c L) : L.length = n := by
  obtain ⟨vs, h1, h2, h3⟩ := h
  have := h1.1
  have := h3.1
  omega
end
section
variable {F G G2 : Nat → Prop} {w w' : World} {vs us : List Value} {L M : List (List Int)} {a : Option Addr} {n c : Nat}
theorem OwnL.fr (h : OwnL G w a n c L) (hf : Fr F w w') (hd : ∀ k, G k → ¬ F k) : OwnL G w' a n c L := by
  obtain ⟨vs, h1, h2, h3⟩ := h
  exact ⟨vs, own_fr h1 hf (fun k e => hd k (h2 k e)), h2, h3.fr hf hd⟩
end
section
variable {F G G2 : Nat → Prop} {w w' : World} {vs us : List Value} {L M : List (List Int)} {a : Option Addr} {n c : Nat}
theorem OwnL.below (h : OwnL G w a n c L) (hb : Below w.heap.size w w') : OwnL G w' a n c L := h.fr (Fr.of_below (fun _ => False) hb) (fun _ _ h => h)
end
section
variable {F G G2 : Nat → Prop} {w w' : World} {vs us : List Value} {L M : List (List Int)} {a : Option Addr} {n c : Nat}
theorem OwnL.mono (h : OwnL G w a n c L) (hg : ∀ k, k < w.heap.size → G k → G2 k) : OwnL G2 w a n c L := by
  obtain ⟨vs, h1, h2, h3⟩ := h
  exact ⟨vs, h1, fun k e => hg k (h1.lt k e).2 (h2 k e), h3.mono hg⟩
end
section
variable {F G G2 : Nat → Prop} {w w' : World} {vs us : List Value} {L M : List (List Int)} {a : Option Addr} {n c : Nat}
theorem OwnL.rdl (h : OwnL G w a n c L) : RdL G w a n c L := by
  obtain ⟨vs, h1, h2, h3⟩ := h
  exact ⟨vs, Rc.own h1, InF.own h1 h2, h3.at_⟩
end
section
variable {F G G2 : Nat → Prop} {w w' : World} {vs us : List Value} {L M : List (List Int)} {a : Option Addr} {n c : Nat}
theorem OwnL.nil : OwnL G w none 0 0 [] := ⟨[], World.ownsRow_nil _ _ _ _, fun k e => (by cases e), RowsO.nil⟩
end
section
variable {F G G2 : Nat → Prop} {w w' : World} {vs us : List Value} {L M : List (List Int)} {a : Option Addr} {n c : Nat}
theorem OwnL.small (h : OwnL G w a n c L) : n ≤ 9223372036854775807 := h.rdl.small
end
theorem infoR : (Try.prog.info? 21).map (fun i => (i.zero, i.size, i.bytes)) = some (some (.int .i32 0), 1, 4) := by kernel_rfl
theorem wrap_u64m (n : Int) : IntKind.u64.wrap n = n % 18446744073709551616 := by simp [IntKind.wrap, IntKind.bits, IntKind.signed]
theorem u64_mask32 (x : Int) (h0 : 0 ≤ x) (h1 : x < 4294967296) : bits .and .u64 x 4294967295 = x := by
  have h := bits_mask .u64 32 (by decide) (fun n a b => by rw [wrap_u64m]; omega) 32 (by decide) x h0 (by omega)
  have e : (2 : Int) ^ 32 - 1 = 4294967295 := by decide
  rw [e] at h
  rw [h]; omega
theorem mul_1 (n : Nat) (w : World) (hn : n ≤ 1073741824) :
    Calls Try.prog 98 #[.int .u64 1, .int .u64 n] w fun e w' => e = .returned (.tuple #[.int .u64 0, .int .u64 n]) ∧ w = w' := by
  have e1 : bits .and .u64 1 4294967295 = 1 := by decide
  have e2 : bits .and .u64 n 4294967295 = n := u64_mask32 n (by omega) (by omega)
  have e3 : bits .and .u64 0 4294967295 = 0 := by decide
  have d1 : (n : Int) / 4294967296 = 0 := by omega
  have h1 : IntKind.u64.wrap (n : Int) = n := by rw [wrap_u64m]; omega
  have h0 : IntKind.u64.wrap 0 = 0 := by decide
  go_enter Try.func98, Try.ntmps98
  go_wp2
  go_ret2
  exact ⟨rfl, rfl⟩
theorem sizeRK : (Try.prog.info? 21).map (·.size) = some 1 := by kernel_rfl
/-- a row of n runes, the first k of them x, the others 0 -/
def repRow (x : Int) (n k : Nat) : List Value := List.replicate k (.int .i32 x) ++ List.replicate (n - k) (.int .i32 0)
theorem repRow_len (x : Int) {n k : Nat} (h : k ≤ n) : (repRow x n k).length = n := by simp [repRow]; omega
theorem repRow_0 (x : Int) (n : Nat) : repRow x n 0 = List.replicate n (.int .i32 0) := by simp [repRow]
theorem repRow_full (x : Int) (n : Nat) : repRow x n n = List.replicate n (.int .i32 x) := by simp [repRow]
theorem repRow_splice (x : Int) {n k m : Nat} (h : k + m ≤ n) : splice (repRow x n k) k (List.replicate m (.int .i32 x)) = repRow x n (k + m) := by
  unfold splice repRow
  rw [List.length_replicate, List.take_left' (by simp), List.drop_append]
  simp only [List.drop_replicate, List.length_replicate]
  rw [show k - (k + m) = 0 from by omega, List.replicate_zero, List.nil_append, ← List.append_assoc, List.replicate_append_replicate]
  congr 2
  omega
theorem own_of_row {w : World} {B g n : Nat} {e : TypeId} {cs xs : List Value} (hg : w.heap[g]? = some (.cells cs.toArray e (0, 0))) (hB : B ≤ g) (hx : cs = xs ∧ cs.length = n) (hn : n ≤ maxLen) :
    w.ownsRow B e 1 (.slice (some ⟨g, 0, none⟩) n n) n xs := by
  obtain ⟨rfl, hl⟩ := hx
  exact ⟨by omega, .inr ⟨g, n, _, rfl, hB, hg, Nat.le_refl _, hn, by simp [hl], by rw [List.take_of_length_le (by simp [hl])]⟩⟩
theorem repeat_0 (bx : Nat) (x : Int) (w : World) :
    Calls Try.prog 74 #[.slice (some ⟨bx, 0, none⟩) 1 1, .int .i64 0] w fun e w' => ∃ v, e = .returned v ∧ w'.ownsRow w.heap.size 21 1 v 0 [] ∧ Below w.heap.size w w' := by
  obtain ⟨i0, hi, hz0, hz1, hz2⟩ := info_parts infoR
  have hmk := run_make (P := Try.prog) w 35 21 i0 (.int .i32 0) Try.underlying35 hi hz0 .i64 .i64 0 0 (by omega) (by omega) (by omega) (by omega)
  simp only [Int.toNat_zero] at hmk
  go_enter Try.func74, Try.ntmps74
  go_wp2_with (first
    | (go_at_call 98; refine (mul_1 0 _ (by omega)).mono ?_; rintro e w' ⟨rfl, rfl⟩)
    | (with_reducible refine wpList_copy_nothing rfl (.tmp 31) (.tmp 32) 35 35 rfl 21 Try.underlying35 sizeRK _ _ _ _ _ _ rfl rfl rfl ?_))
  go_loopw [8] (fun i wr => i = .int .i64 0 ∧ wr = w.alloc (.cells (madeCells #[.int .i32 0] 0) 21)) (fun _ _ => 0)
  case atStart => exact ⟨rfl, by simp [Value.cells]⟩
  case round =>
    obtain ⟨rfl, rfl⟩ := hrel
    go_wp2
    go_ret
    exact ⟨_, rfl, World.ownsRow_made w _ 0 (Nat.le_refl _) (by simp) (by simp [madeCells]), (Below.refl _ _).alloc (Nat.le_refl _) _⟩
set_option maxHeartbeats 2000000 in
theorem repeat_pos (bx : Nat) (x : Int) (n : Nat) (w : World) (hc : w.cell? ⟨bx, 0, none⟩ = some (.int .i32 x)) (h0 : 0 < n) (hn : n ≤ 1073741824) :
    Calls Try.prog 74 #[.slice (some ⟨bx, 0, none⟩) 1 1, .int .i64 n] w fun e w' => ∃ v, e = .returned v ∧ w'.ownsRow w.heap.size 21 1 v n (List.replicate n (.int .i32 x)) ∧ Below w.heap.size w w' := by
  obtain ⟨i0, hi, hz0, hz1, hz2⟩ := info_parts infoR
  have hmk := run_make (P := Try.prog) w 35 21 i0 (.int .i32 0) Try.underlying35 hi hz0 .i64 .i64 n n (by omega) (by omega) (by rw [hz2]; omega) (by omega)
  simp only [Int.toNat_natCast, hz1] at hmk
  have h1 : IntKind.u64.wrap (n : Int) = n := by rw [wrap_u64m]; omega
  have hbx : bx < w.heap.size := block_lt_of_cell hc
  have hcells : (madeCells (Value.int .i32 0).cells (n * 1)) = (repRow x n 0).toArray := by
    rw [repRow_0, ← toList_madeCells_one]; simp [Value.cells]
  rw [hcells] at hmk
  obtain ⟨row, hrow⟩ : ∃ row, repRow x n 0 = row := ⟨_, rfl⟩
  have hlen : row.length = n := by rw [← hrow]; exact repRow_len x (by omega)
  rw [hrow] at hmk
  have HL := Lib.hid hlen
  have HROW := Lib.hid hrow; clear hrow hlen hcells
  go_enter Try.func74, Try.ntmps74
  go_wp2_with (first
    | (go_at_call 98; refine (mul_1 n _ (by omega)).mono ?_; rintro e w' ⟨rfl, rfl⟩)
    | (with_reducible refine wpList_copy_splice rfl (.tmp 31) (.tmp 32) 35 35 rfl 21 Try.underlying35 sizeRK _ _ _ _ _ _ rfl rfl w.heap.size 0 row 21 (heap_alloc_new w _) [.int .i32 x] ?c1 ?c2 ?c3 ?c4 w.heap.size w ?c5 (Nat.le_refl _) ?_))
  case c1 => simp [Nat.min_def]; omega
  case c2 =>
    intro j v hv
    match j, hv with
    | 0, hv => simp at hv; subst hv; exact hc
  case c3 => have := HL.out; simp; omega
  case c4 => intro v hv; simp at hv; subst hv; rfl
  case c5 => exact (Below.refl _ _).alloc (Nat.le_refl _) _
  intro w2 hg2 hb2
  have HG : Hid (w2.heap[w.heap.size]? = some (.cells (repRow x n 1).toArray 21 (0, 0))) := by
    have h := hg2.out
    rw [← HROW.out, show [Value.int .i32 x] = List.replicate 1 (.int .i32 x) from rfl, repRow_splice x (by omega)] at h
    exact h
  clear hg2 hmk
  go_wp2_with fail
  go_loopw [8] (fun i wr => ∃ k : Nat, 1 ≤ k ∧ k ≤ n ∧ i = .int .i64 k ∧ Hid (wr.heap[w.heap.size]? = some (.cells (repRow x n k).toArray 21 (0, 0))) ∧ Below w.heap.size w wr) (fun i _ => n - (intOf i).toNat)
  case atStart => exact ⟨1, by omega, by omega, rfl, HG, hb2⟩
  case round =>
    obtain ⟨k, hk1, hk, rfl, hg, hbl⟩ := hrel
    clear HG hb2
    by_cases hlt : k < n
    · obtain ⟨m, hm⟩ : ∃ m, min k (n - k) = m := ⟨_, rfl⟩
      have hm1 : 1 ≤ m := by omega
      have hm2 : k + m ≤ n := by omega
      have s0 : Hid (wr.drew.heap[w.heap.size]? = some (.cells (repRow x n k).toArray 21 (0, 0))) := hg
      have s1 : Hid ((List.replicate m (Value.int .i32 x)).length = Nat.min k (n - k)) := by show _ = _; rw [List.length_replicate, ← hm]
      have s2 : Hid (0 < (List.replicate m (Value.int .i32 x)).length → (if n = k then some (⟨w.heap.size, 0, none⟩ : Addr) else some ⟨w.heap.size, k, none⟩) = some ⟨w.heap.size, k, none⟩ ∧
          ∃ ad, some (⟨w.heap.size, 0, none⟩ : Addr) = some ad ∧ ∀ j v, (List.replicate m (Value.int .i32 x))[j]? = some v → wr.drew.cell? (ad.add j) = some v) := by
        intro hp
        refine ⟨by rw [if_neg (by omega)], _, rfl, fun j v hv => ?_⟩
        have hj : j < m := by have := (List.getElem?_eq_some_iff.1 hv).1; simpa using this
        rw [List.getElem?_replicate, if_pos hj] at hv
        have he : (⟨w.heap.size, 0, none⟩ : Addr).add j = ⟨w.heap.size, j, none⟩ := by
          by_cases h0 : j = 0
          · subst h0; rfl
          · simp [Addr.add]; intro hj; exact absurd hj h0
        rw [he, cell_of_row _ _ _ _ _ _ s0.out]
        simp only [List.getElem?_toArray, repRow]
        rw [List.getElem?_append_left (by simp; omega), List.getElem?_replicate, if_pos (by omega)]
        exact hv
      have s3 : Hid (k + (List.replicate m (Value.int .i32 x)).length ≤ (repRow x n k).length) := by show _ ≤ _; rw [repRow_len x hk]; simp; omega
      have s4 : Hid (∀ v ∈ List.replicate m (Value.int .i32 x), v.oneCell' = true) := by
        intro v hv; rw [List.mem_replicate] at hv; rw [hv.2]; rfl
      have hb2 := hbl.drew
      have hw : IntKind.i64.wrap ((k : Int) + (m : Int)) = (k : Int) + (m : Int) := by rw [IntKind.wrap_i64]; omega
      clear hm
      go_wp2_with fail
      go_region_law (refine step_copy_splice rfl (.tmp 41) (.tmp 44) 35 35 rfl 21 Try.underlying35 sizeRK (if n = k then some (⟨w.heap.size, 0, none⟩ : Addr) else some ⟨w.heap.size, k, none⟩) (some ⟨w.heap.size, 0, none⟩) (n - k) (n - k) k n (by simp [Act.eval, Act.put]) (by simp [Act.eval, Act.put]) w.heap.size k (repRow x n k) 21 s0.out (List.replicate m (.int .i32 x)) s1.out s2.out s3.out s4.out w.heap.size w hb2 (Nat.le_refl _) ?_; intro w4 hg4 hb4)
      have HG4 : Hid (w4.heap[w.heap.size]? = some (.cells (repRow x n (k + m)).toArray 21 (0, 0))) := by
        have h := hg4.out
        rw [repRow_splice x (by omega)] at h
        exact h
      clear hg4 s0 s1 s2 s3 s4 hg hb2 hbl
      go_wp2_with fail
      go_roundw
      case rel => exact ⟨k + m, by omega, by omega, by simp, HG4⟩
      case measure => simp [intOf]; omega
    · obtain rfl : k = n := by omega
      go_wp2
      go_ret
      refine ⟨_, rfl, own_of_row hg.out (Nat.le_refl _) (by rw [repRow_full]; simp) (by unfold maxLen; omega), hbl⟩
theorem repeat_any (bx : Nat) (x : Int) (n : Nat) (w : World) (hc : w.cell? ⟨bx, 0, none⟩ = some (.int .i32 x)) (hn : n ≤ 1073741824) :
    Calls Try.prog 74 #[.slice (some ⟨bx, 0, none⟩) 1 1, .int .i64 n] w fun e w' => ∃ v, e = .returned v ∧ w'.ownsRow w.heap.size 21 1 v n (List.replicate n (.int .i32 x)) ∧ Below w.heap.size w w' := by
  by_cases h0 : n = 0
  · subst h0
    exact repeat_0 bx x w
  · exact repeat_pos bx x n w hc (by omega) hn
/-- append of what can be read -/
theorem wpList_appRc {P : Program} {w : World} {ops : Array Oper} {rest : List Oper} {o : Oper} {a : Act} {Q : Exit → Act → World → Prop} (hgd : o.guard = none) (s x : Operand) (t : TypeId)
    (ho : o.op = .call { callee := .builtin .append, args := #[s, x], argTypes := #[t, t] })
    (base : Nat) (e : TypeId) (i : TypeInfo) (z : Value) (bytes : Nat) (ht : P.underlying t = some (.slice e)) (hi : P.info? e = some i) (hz : i.zero = some z)
    (hsize : i.size = 1) (hby : i.bytes = bytes) (hzs : z.cells.size = 1)
    (v : Value) (n : Nat) (xs : List Value) (hs : a.eval s = v) (hown : w.ownsRow base e 1 v n xs)
    (ad : Option Addr) (m c : Nat) (ys : List Value) (hx : a.eval x = .slice ad m c) (hrd : Rc w ad m c 1 ys) (h1 : ∀ u ∈ ys, u.oneCell' = true)
    (h63 : n + m ≤ maxLen) (hbytes : (n + m) * bytes ≤ 140737488355328) (hbase : base ≤ w.heap.size)
    (h : ∀ v' w', w'.ownsRow base e 1 v' (n + m) (xs ++ ys) → Below base w w' → wpList P ops Q rest (a.put o.dst v') w') : wpList P ops Q (o :: rest) a w :=
  wpList_app hgd s x t ho base e i z bytes ht hi hz hsize hby hzs v n xs hs hown ad m c ys hx (by have := hrd.1; omega) hrd.2.2.2.1 hrd.2.1 (fun hp => hrd.src hp) h1 h63 hbytes hbase h
theorem growS_0 (w : World) :
    Calls Try.prog 99 #[.slice none 0 0, .int .i64 0] w fun e w' => e = .returned (.slice none 0 0) ∧ w = w' := by
  go_enter Try.func99, Try.ntmps99
  go_wp2
  go_ret
  exact ⟨rfl, rfl⟩
theorem growS_pos (n : Nat) (w : World) (h0 : 0 < n) (hn : n ≤ 1099511627776) :
    Calls Try.prog 99 #[.slice none 0 0, .int .i64 n] w fun e w' => ∃ v, e = .returned v ∧ w'.ownsRow w.heap.size 35 1 v 0 [] ∧ Below w.heap.size w w' := by
  obtain ⟨i0, hi, hz0, hz1, hz2⟩ := info_parts infoS
  have hpos : (0 : Int) < n := by omega
  have hrun := Lib.run_append_nil_zeros (P := Try.prog) w 22 3 22 35 i0 (.slice none 0 0) .i64 .i64 Try.underlying22 Try.underlying3 hi hz0 n h0 (by rw [hz1]; decide) (by omega) (by rw [hz2]; omega)
  have HR := Lib.hid hrun; clear hrun
  go_enter Try.func99, Try.ntmps99
  go_wp2_with (at_builtin; go_must (refine Lib.wpList_append_run _ rfl _ _ _ _ rfl _ _ rfl rfl _ _ HR.out ?_))
  go_ret
  refine ⟨_, rfl, World.ownsRow_made w.drew _ _ (Nat.le_refl _) (grownCap_le_maxLen _ _ _ _ (by unfold maxLen; omega)) ?_, ((Below.refl _ _).drew.alloc (by simp) _)⟩
  have hge := grownCap_ge w n 0 35
  simp only [Array.size_append, size_zeroCells]
  have h1 : (#[.slice none 0 0] : Array Value).size = 1 := rfl
  simp only [Value.cells, h1]; omega
theorem growS_any (z : Int) (n : Nat) (w : World) (hz : z = n) (hn : n ≤ 1099511627776) :
    Calls Try.prog 99 #[.slice none 0 0, .int .i64 z] w fun e w' => ∃ v, e = .returned v ∧ w'.ownsRow w.heap.size 35 1 v 0 [] ∧ Below w.heap.size w w' := by
  subst hz
  by_cases h0 : n = 0
  · subst h0
    exact (growS_0 w).mono fun e w' ⟨h1, h2⟩ => ⟨_, h1, by subst h2; exact World.ownsRow_nil _ _ _ _, by subst h2; exact Below.refl _ _⟩
  · exact growS_pos n w (by omega) hn
theorem index_any (a : Option Addr) (n c : Nat) (x : List Int) (v : Int) (w : World) (h : Rd .i32 w a n c x) :
    Calls Try.prog 100 #[.slice a n c, .int .i32 v] w fun e w' => (∃ r : Int, e = .returned (.int .i64 r) ∧ ((r = -1 ∧ v ∉ x) ∨ ∃ k : Nat, r = k ∧ k < n ∧ x[k]? = some v ∧ v ∉ x.take k)) ∧ w = w' := by
  have hsm := h.small
  have hl := h.1
  have HL := Lib.hid hl
  have H := Lib.hid h
  clear h hl
  go_enter Try.func100, Try.ntmps100
  go_wp2_with fail
  go_loop [8] (fun v8 => ∃ k : Nat, k ≤ n ∧ v8 = .int .i64 k ∧ Hid (v ∉ x.take k)) (fun v8 => n - (intOf v8).toNat)
  case atStart => exact ⟨0, Nat.zero_le _, rfl, by show ¬ _; simp⟩
  case round =>
    obtain ⟨k, hk, rfl, hno⟩ := hrel
    by_cases hlt : k < n
    · obtain ⟨b, off, ha, hc⟩ := H.out.2.2.2.2.2 (by omega)
      have cx := hc k hlt
      have hbl := block_lt_of_cell cx
      obtain ⟨y, hy⟩ : ∃ y, x.getD k 0 = y := ⟨_, rfl⟩
      rw [hy] at cx
      have hxk : x[k]? = some y := by
        rw [← hy, List.getD_eq_getElem?_getD, List.getElem?_eq_getElem (by have := HL.out; omega)]; rfl
      subst ha
      have HXK := Lib.hid hxk
      clear hc hy hxk
      by_cases hvy : v = y
      · have heq : (v == y) = true := by simp [hvy]
        have HF : Hid (∃ r : Int, Ending.returned (.int .i64 (k : Nat)) = Ending.returned (.int .i64 r) ∧ ((r = -1 ∧ v ∉ x) ∨ ∃ k : Nat, r = k ∧ k < n ∧ x[k]? = some v ∧ v ∉ x.take k)) := ⟨k, rfl, .inr ⟨k, rfl, hlt, by rw [HXK.out, hvy], hno.out⟩⟩
        clear hvy hno
        go_wp2_with fail
        go_ret
        exact ⟨HF.out, rfl⟩
      · have hne : (v == y) = false := by simp [hvy]
        have HN : Hid (v ∉ x.take (k + 1)) := by
          show ¬ _
          obtain ⟨hk', e⟩ := List.getElem?_eq_some_iff.1 HXK.out
          rw [List.take_succ_eq_append_getElem hk', e]
          simp only [List.mem_append, List.mem_singleton, not_or]
          exact ⟨hno.out, hvy⟩
        clear hvy hno
        go_wp2_with fail
        go_round
        case rel => exact ⟨k + 1, by omega, by go_num, HN⟩
        case measure => simp [intOf]; omega
    · obtain rfl : k = n := by omega
      have HF : Hid (∃ r : Int, Ending.returned (.int .i64 (-1)) = Ending.returned (.int .i64 r) ∧ ((r = -1 ∧ v ∉ x) ∨ ∃ k' : Nat, r = k' ∧ k' < k ∧ x[k']? = some v ∧ v ∉ x.take k')) := ⟨-1, rfl, .inl ⟨rfl, by have := hno.out; rwa [List.take_of_length_le (by have := HL.out; omega)] at this⟩⟩
      clear hno
      go_wp2_with fail
      go_ret
      exact ⟨HF.out, rfl⟩
theorem contains_any (a : Option Addr) (n c : Nat) (x : List Int) (w : World) (h : Rd .i32 w a n c x) :
    Calls Try.prog 83 #[.slice a n c, .int .i32 10] w fun e w' => e = .returned (.bool (has10 x)) ∧ w = w' := by
  have HI := Lib.hid (index_any a n c x 10 w h)
  have hsm := h.small
  obtain ⟨T, hT⟩ : ∃ T, has10 x = T := ⟨_, rfl⟩
  have HT := Lib.hid hT
  rw [hT]
  clear h hT
  go_enter Try.func83, Try.ntmps83
  go_wp2_with fail
  refine HI.out.mono ?_
  rintro e w' ⟨⟨r, rfl, hr⟩, rfl⟩
  rcases hr with ⟨rfl, hno⟩ | ⟨k, rfl, hk, hx, _⟩
  · have e : T = false := by
      cases hh : T
      · rfl
      · exact absurd (has10_iff.1 (HT.out.trans hh)) hno
    subst e
    clear hno
    go_wp2_with fail
    go_ret
    exact ⟨rfl, rfl⟩
  · have e : T = true := HT.out.symm.trans (has10_iff.2 (List.mem_of_getElem? hx))
    subst e
    clear hx
    go_wp2_with fail
    go_ret
    exact ⟨rfl, rfl⟩
theorem makeIc (w : World) (n c : Nat) (hn : n ≤ c) (hc : c ≤ 1073741824) : (Instr.makeSlice 35 (.int .i64 n) (.int .i64 c)).run Try.prog w = .ok (.slice (some ⟨w.heap.size, 0, none⟩) n c) (w.alloc (.cells (madeCells #[.int .i32 0] c) 21)) := by
  obtain ⟨i, hi, hz0, hz1, hz2⟩ := info_parts infoI
  have hr := run_make (P := Try.prog) w 35 21 i _ Try.underlying35 hi hz0 .i64 .i64 n c (by omega) (by omega) (by rw [hz2]; omega) (by omega)
  simpa [hz1, Value.cells] using hr
theorem makeL (w : World) (n : Nat) (hn : n ≤ 1073741824) : (Instr.makeSlice 22 (.int .i64 n) (.int .i64 n)).run Try.prog w = .ok (.slice (some ⟨w.heap.size, 0, none⟩) n n) (w.alloc (.cells (madeCells #[.slice none 0 0] n) 35)) := by
  obtain ⟨i, hi, hz0, hz1, hz2⟩ := info_parts infoS
  have hr := run_make (P := Try.prog) w 22 35 i _ Try.underlying22 hi hz0 .i64 .i64 n n (by omega) (Int.le_refl _) (by rw [hz2]; omega) (by omega)
  simpa [hz1, Value.cells] using hr
/-- in the loop that copies lines into a row of n: k of them are copied -/
def MadeS (B g n k : Nat) (L : List (List Int)) (w wr : World) : Prop :=
  ∃ cur : List Value, wr.heap[g]? = some (.cells cur.toArray 35 (0, 0)) ∧ cur.length = n ∧
    (∀ (i : Nat) (x : List Int), i < k → L[i]? = some x → ∃ v, cur[i]? = some v ∧ wr.ownsRow B 21 1 v x.length (ints x)) ∧
    (∀ (i j : Nat) (vi vj : Value), i < j → j < k → cur[i]? = some vi → cur[j]? = some vj → ∀ b, vi.ownBlock = some b → vj.ownBlock ≠ some b) ∧ Below B w wr
theorem MadeS.step {B g n k : Nat} {L : List (List Int)} {w wr W : World} {v : Value} {x : List Int} (h : MadeS B g n k L w wr) (hk : k < n) (hx : L[k]? = some x) (hv : W.ownsRow wr.heap.size 21 1 v x.length (ints x)) (hb : Below wr.heap.size wr W) (hB : B ≤ g) (hs : B ≤ wr.heap.size) :
    MadeS B g n (k + 1) L w (W.setCell ⟨g, k, none⟩ v) := by
  obtain ⟨cur, h1, h2, h3, h4, h6⟩ := h
  have hg := (hb.block g (heap_lt h1)).trans h1
  have hf : Fr (fun b => b = g) W (W.setCell ⟨g, k, none⟩ v) := (Fr.refl _ _).setCell _ _ (fun _ => rfl)
  have far : ∀ {B' n' : Nat} {u : Value} {xs : List Value}, W.ownsRow B' 21 1 u n' xs → (W.setCell ⟨g, k, none⟩ v).ownsRow B' 21 1 u n' xs := fun ho => own_fr ho hf (fun b e => row_block_apart ho hg (by decide) e)
  have hkL := (List.getElem?_eq_some_iff.1 hx).1
  refine ⟨cur.set k v, cell_set1 hg v, by simp [h2], ?_, ?_, (h6.trans (hb.mono hs)).setCell hB _⟩
  · intro i y hi hy
    by_cases e : i = k
    · subst e
      rw [hx] at hy
      cases hy
      exact ⟨v, by rw [List.getElem?_set_self (by omega)], far (own_mono hv hs)⟩
    · obtain ⟨u, e1, e2⟩ := h3 i y (by omega) hy
      exact ⟨u, by rw [List.getElem?_set_ne (by omega)]; exact e1, far (own_fr e2 (Fr.of_below (fun _ => False) hb) (fun _ _ h => h))⟩
  · intro i j vi vj hij hj hi hvj b hb'
    rw [List.getElem?_set_ne (by omega)] at hi
    by_cases e : j = k
    · subst e
      rw [List.getElem?_set_self (by omega)] at hvj
      cases hvj
      obtain ⟨u, e1, e2⟩ := h3 i _ hij (List.getElem?_eq_getElem (by omega))
      rw [hi] at e1
      cases e1
      intro e3
      have := (e2.lt b hb').2
      have := (hv.lt b e3).1
      omega
    · rw [List.getElem?_set_ne (by omega)] at hvj
      exact h4 i j vi vj hij (by omega) hi hvj b hb'
/-- lines of one's own behind lines of one's own -/
theorem own_app (w : World) (G G2 : Nat → Prop) (a : Option Addr) (n c : Nat) (L : List (List Int)) (b : Option Addr) (m d : Nat) (us : List Value) (M : List (List Int)) (h : OwnL G w a n c L) (k1 : Rc w b m d 1 us) (k3 : RowsO G2 w us M) (hd : ∀ x, G x → ¬ G2 x) (hn : n + m ≤ 1099511627776) :
    ∃ a' c' w', (∀ ty, (Builtin.append_ #[22, 22] ty #[.slice a n c, .slice b m d]).run Try.prog w = .ok (.slice a' (n + m) c') w') ∧ OwnL (fun x => G x ∨ G2 x ∨ w.heap.size ≤ x) w' a' (n + m) c' (L ++ M) ∧ Fr G w w' := by
  obtain ⟨vs, h1, h2, h3⟩ := h
  obtain ⟨i0, hi0, hz0, hz1, hz2⟩ := info_parts infoS
  have hul : us.length = m * 1 := k1.1
  obtain ⟨v', w', hrun, hown, hfr, hnear⟩ := run_append_own_k (P := Try.prog) w 0 22 35 i0 _ 1 24 Try.underlying22 hi0 hz0 hz1 hz2 rfl (by decide) (.slice a n c) n vs h1 b m d us hul
    (fun hp => k1.src hp) k3.at_.one1 (by unfold maxLen; omega) (by omega) (Nat.zero_le _)
  obtain ⟨a', c', rfl⟩ := own_slice hown
  have hfG : Fr G w w' := hfr.mono (fun x _ e => h2 x e.symm)
  have g1 : RowsO (fun x => G x) w' vs L := by
    refine ⟨h3.1, fun i x hx => ?_, h3.2.2⟩
    obtain ⟨v, e1, e2, e3, e4⟩ := h3.2.1 i x hx
    exact ⟨v, e1, own_fr e2 hfr (fun k e hk => rows_apart e2 h1 (by decide) e hk), e3, e4⟩
  have g2 : RowsO G2 w' us M := k3.fr hfG (fun x hx e => hd x e hx)
  refine ⟨a', c', w', hrun, ⟨vs ++ us, hown, fun k e => ?_, (g1.append g2 hd).mono (fun k _ hk => by rcases hk with q | q; exact .inl q; exact .inr (.inl q))⟩, hfG⟩
  rcases hnear with q | q
  · exact .inl (h2 k (q ▸ e))
  · rw [q] at e
    cases e
    exact .inr (.inr (Nat.le_refl _))
/-- the last line goes on with what can be read -/
theorem own_ext (w : World) (G : Nat → Prop) (k c : Nat) (a : Option Addr) (D : List (List Int)) (y z : List Int) (za : Option Addr) (zn zc : Nat) (h : OwnL G w a (k + 1) c (D ++ [y])) (hz : Rd .i32 w za zn zc z) (hzw : ∀ q ∈ z, (Lit.int .i32 q).wf = true) (hy : y.length + zn ≤ 2097152) :
    ∃ g ra rc a' c' w3, a = some ⟨g, 0, none⟩ ∧ g < w.heap.size ∧ w.cell? ⟨g, k, none⟩ = some (.slice ra y.length rc) ∧
      (∀ ty, (Builtin.append_ #[35, 35] ty #[.slice ra y.length rc, .slice za zn zc]).run Try.prog w = .ok (.slice a' (y.length + zn) c') w3) ∧
      (∃ u, w3.cell? ⟨g, k, none⟩ = some u) ∧ w3.frozen? ⟨g, k, none⟩ = false ∧ g < w3.heap.size ∧ Fr G w w3 ∧
      OwnL (fun x => G x ∨ w.heap.size ≤ x) (w3.setCell ⟨g, k, none⟩ (.slice a' (y.length + zn) c')) a (k + 1) c (D ++ [y ++ z]) ∧ Fr G w (w3.setCell ⟨g, k, none⟩ (.slice a' (y.length + zn) c')) := by
  have hzl : z.length = zn := hz.1
  have hDl : D.length = k := by have := h.len; simp at this; omega
  obtain ⟨vs, h1, hG1, h2, h3, h4⟩ := h
  obtain ⟨i0, hi0, hz0, hz1, hz2⟩ := info_parts infoI
  have hyk : (D ++ [y])[k]? = some y := by rw [List.getElem?_append_right (by omega), hDl]; simp
  obtain ⟨v, e1, e2, e2G, e2w⟩ := h3 k y hyk
  obtain ⟨ra, rc, rfl⟩ := own_slice e2
  obtain ⟨v', w3, hrun, hown, hfr, hnear⟩ := run_append_own_k (P := Try.prog) w 0 35 21 i0 _ 1 4 Try.underlying35 hi0 hz0 hz1 hz2 rfl (by decide) (.slice ra y.length rc) y.length (ints y) e2 za zn zc (ints z) (by simp [ints, hzl])
    (fun hp => Rd_cells hz hp) (ints1 _ _) (by unfold maxLen; omega) (by omega) (by omega)
  obtain ⟨a', c', rfl⟩ := own_slice hown
  have hfG : Fr G w w3 := hfr.mono (fun x _ e => e2G x e.symm)
  have h13 := own_fr h1 hfr (fun k e hk => rows_apart h1 e2 (by decide) e hk)
  rcases h1.2 with ⟨_, e0⟩ | ⟨g, cap, cur, ev, hgB, hgw, hnc, hcm, hcs, htk⟩
  · omega
  injection ev with ev1 ev2 ev3
  subst ev1 ev3
  rcases h13.2 with ⟨_, e0⟩ | ⟨g', cap', cur', ev', hgB', hgw3, hnc', hcm', hcs', htk'⟩
  · omega
  injection ev' with ev1 ev2 ev3
  injection ev1 with ev1
  injection ev1 with ev1
  subst ev1 ev3
  have hvl : vs.length = k + 1 := by rw [h2]; simp [hDl]
  have hgG : G g := hG1 g (by simp [Value.ownBlock])
  have hcell : w.cell? ⟨g, k, none⟩ = some (.slice ra y.length rc) := by
    rw [cell_row hgw, ← e1, ← htk, List.getElem?_take, if_pos (by omega)]
    simp
  have fset : Fr (fun x => x = g) w3 (w3.setCell ⟨g, k, none⟩ (.slice a' (y.length + zn) c')) := (Fr.refl _ _).setCell _ _ (fun _ => rfl)
  refine ⟨g, ra, rc, a', c', w3, rfl, heap_lt hgw, hcell, hrun, ⟨_, (cell_row hgw3 k).trans (Array.getElem?_eq_getElem (by omega))⟩, frozen_row hgw3 k, heap_lt hgw3, hfG, ?_, ?_⟩
  · have far : ∀ {B' n' : Nat} {u : Value} {xs : List Value}, w3.ownsRow B' 21 1 u n' xs → (w3.setCell ⟨g, k, none⟩ (.slice a' (y.length + zn) c')).ownsRow B' 21 1 u n' xs := fun ho => own_fr ho fset (fun b e => row_block_apart ho hgw3 (by decide) e)
    refine ⟨vs.set k (.slice a' (y.length + zn) c'), ⟨by simp; omega, .inr ⟨g, c, _, rfl, hgB, heap_set hgw3 k _, hnc, hcm, by simpa using hcs', ?_⟩⟩, fun q e => .inl (hG1 q e), by simp [h2], ?_, ?_⟩
    · rw [Array.toList_setIfInBounds, List.take_set, htk']
    · intro i x hx
      by_cases hi : i < D.length
      · rw [List.getElem?_append_left hi] at hx
        have hx2 : (D ++ [y])[i]? = some x := by rw [List.getElem?_append_left hi]; exact hx
        obtain ⟨u, f1, f2, f2G, f2w⟩ := h3 i x hx2
        refine ⟨u, by rw [List.getElem?_set_ne (by omega)]; exact f1, far (own_fr f2 hfr (fun b e hb => ?_)), fun q e => .inl (f2G q e), f2w⟩
        exact h4 i k _ _ (by omega) f1 e1 b e hb.symm
      · have hie : i = k := by
          have := (List.getElem?_eq_some_iff.1 hx).1
          simp at this; omega
        subst hie
        rw [List.getElem?_append_right (by omega), hDl] at hx
        simp at hx
        subst hx
        refine ⟨_, by rw [List.getElem?_set_self (by omega)], far ?_, fun q e => ?_, fun q hq => ?_⟩
        · have : (y ++ z).length = y.length + zn := by simp [hzl]
          rw [this]
          simpa [ints] using hown
        · rcases hnear with p | p
          · exact .inl (e2G q (p ▸ e))
          · rw [p] at e
            cases e
            exact .inr (Nat.le_refl _)
        · rcases List.mem_append.1 hq with p | p
          · exact e2w q p
          · exact hzw q p
    · intro i j vi vj hij f1 f2 b eb
      have hj := (List.getElem?_eq_some_iff.1 f2).1
      rw [List.length_set] at hj
      rw [List.getElem?_set_ne (by omega)] at f1
      by_cases hjk : j = k
      · subst hjk
        rw [List.getElem?_set_self (by omega)] at f2
        cases f2
        have hi : i < D.length := by omega
        rcases hnear with e | e
        · rw [e]; exact h4 i j _ _ hij f1 e1 b eb
        · rw [e]
          intro e3
          injection e3 with e3
          obtain ⟨u, f3, f4, f5⟩ := h3 i _ (List.getElem?_eq_getElem (l := D ++ [y]) (i := i) (by simp; omega))
          rw [f1] at f3
          cases f3
          have := (f4.lt b eb).2
          omega
      · rw [List.getElem?_set_ne (by omega)] at f2
        exact h4 i j vi vj hij f1 f2 b eb
  · exact hfG.trans fset (fun x _ e => by rw [e]; exact hgG)
theorem wword_any (c : Int) (w : World) :
    Calls Try.prog 105 #[.int .i32 c] w fun e w' => e = .returned (.bool (wordR c)) ∧ w = w' := by
  have hall : c ≤ 47 ∨ (48 ≤ c ∧ c ≤ 57) ∨ (58 ≤ c ∧ c ≤ 64) ∨ (65 ≤ c ∧ c ≤ 90) ∨ (91 ≤ c ∧ c ≤ 94) ∨ c = 95 ∨ c = 96 ∨ (97 ≤ c ∧ c ≤ 122) ∨ (123 ≤ c ∧ c ≤ 127) ∨ 128 ≤ c := by omega
  rcases hall with ha | ha | ha | ha | ha | ha | ha | ha | ha | ha
  · have ha1 := ha
    have t0 : ¬ 48 ≤ c := by omega
    have d0 : decide (48 ≤ c) = false := by simp; omega
    have t1 : c ≤ 57 := by omega
    have d1 : decide (c ≤ 57) = true := by simp; omega
    have t2 : ¬ 65 ≤ c := by omega
    have d2 : decide (65 ≤ c) = false := by simp; omega
    have t3 : c ≤ 90 := by omega
    have d3 : decide (c ≤ 90) = true := by simp; omega
    have t4 : ¬ 97 ≤ c := by omega
    have d4 : decide (97 ≤ c) = false := by simp; omega
    have t5 : c ≤ 122 := by omega
    have d5 : decide (c ≤ 122) = true := by simp; omega
    have t6 : ¬ 128 ≤ c := by omega
    have d6 : decide (128 ≤ c) = false := by simp; omega
    have e1 : (c == 95) = false := by simp; omega
    have e2 : decide (c = 95) = false := by simp; omega
    have hw : wordR c = false := by simp [wordR]; omega
    rw [hw]
    clear hw e2
    go_enter Try.func105, Try.ntmps105
    go_wp2
    go_ret
    exact ⟨rfl, rfl⟩
  · obtain ⟨ha1, ha2⟩ := ha
    have t0 : 48 ≤ c := by omega
    have d0 : decide (48 ≤ c) = true := by simp; omega
    have t1 : c ≤ 57 := by omega
    have d1 : decide (c ≤ 57) = true := by simp; omega
    have t2 : ¬ 65 ≤ c := by omega
    have d2 : decide (65 ≤ c) = false := by simp; omega
    have t3 : c ≤ 90 := by omega
    have d3 : decide (c ≤ 90) = true := by simp; omega
    have t4 : ¬ 97 ≤ c := by omega
    have d4 : decide (97 ≤ c) = false := by simp; omega
    have t5 : c ≤ 122 := by omega
    have d5 : decide (c ≤ 122) = true := by simp; omega
    have t6 : ¬ 128 ≤ c := by omega
    have d6 : decide (128 ≤ c) = false := by simp; omega
    have e1 : (c == 95) = false := by simp; omega
    have e2 : decide (c = 95) = false := by simp; omega
    have hw : wordR c = true := by simp [wordR]; omega
    rw [hw]
    clear hw e2
    go_enter Try.func105, Try.ntmps105
    go_wp2
    go_ret
    exact ⟨rfl, rfl⟩
  · obtain ⟨ha1, ha2⟩ := ha
    have t0 : 48 ≤ c := by omega
    have d0 : decide (48 ≤ c) = true := by simp; omega
    have t1 : ¬ c ≤ 57 := by omega
    have d1 : decide (c ≤ 57) = false := by simp; omega
    have t2 : ¬ 65 ≤ c := by omega
    have d2 : decide (65 ≤ c) = false := by simp; omega
    have t3 : c ≤ 90 := by omega
    have d3 : decide (c ≤ 90) = true := by simp; omega
    have t4 : ¬ 97 ≤ c := by omega
    have d4 : decide (97 ≤ c) = false := by simp; omega
    have t5 : c ≤ 122 := by omega
    have d5 : decide (c ≤ 122) = true := by simp; omega
    have t6 : ¬ 128 ≤ c := by omega
    have d6 : decide (128 ≤ c) = false := by simp; omega
    have e1 : (c == 95) = false := by simp; omega
    have e2 : decide (c = 95) = false := by simp; omega
    have hw : wordR c = false := by simp [wordR]; omega
    rw [hw]
    clear hw e2
    go_enter Try.func105, Try.ntmps105
    go_wp2
    go_ret
    exact ⟨rfl, rfl⟩
  · obtain ⟨ha1, ha2⟩ := ha
    have t0 : 48 ≤ c := by omega
    have d0 : decide (48 ≤ c) = true := by simp; omega
    have t1 : ¬ c ≤ 57 := by omega
    have d1 : decide (c ≤ 57) = false := by simp; omega
    have t2 : 65 ≤ c := by omega
    have d2 : decide (65 ≤ c) = true := by simp; omega
    have t3 : c ≤ 90 := by omega
    have d3 : decide (c ≤ 90) = true := by simp; omega
    have t4 : ¬ 97 ≤ c := by omega
    have d4 : decide (97 ≤ c) = false := by simp; omega
    have t5 : c ≤ 122 := by omega
    have d5 : decide (c ≤ 122) = true := by simp; omega
    have t6 : ¬ 128 ≤ c := by omega
    have d6 : decide (128 ≤ c) = false := by simp; omega
    have e1 : (c == 95) = false := by simp; omega
    have e2 : decide (c = 95) = false := by simp; omega
    have hw : wordR c = true := by simp [wordR]; omega
    rw [hw]
    clear hw e2
    go_enter Try.func105, Try.ntmps105
    go_wp2
    go_ret
    exact ⟨rfl, rfl⟩
  · obtain ⟨ha1, ha2⟩ := ha
    have t0 : 48 ≤ c := by omega
    have d0 : decide (48 ≤ c) = true := by simp; omega
    have t1 : ¬ c ≤ 57 := by omega
    have d1 : decide (c ≤ 57) = false := by simp; omega
    have t2 : 65 ≤ c := by omega
    have d2 : decide (65 ≤ c) = true := by simp; omega
    have t3 : ¬ c ≤ 90 := by omega
    have d3 : decide (c ≤ 90) = false := by simp; omega
    have t4 : ¬ 97 ≤ c := by omega
    have d4 : decide (97 ≤ c) = false := by simp; omega
    have t5 : c ≤ 122 := by omega
    have d5 : decide (c ≤ 122) = true := by simp; omega
    have t6 : ¬ 128 ≤ c := by omega
    have d6 : decide (128 ≤ c) = false := by simp; omega
    have e1 : (c == 95) = false := by simp; omega
    have e2 : decide (c = 95) = false := by simp; omega
    have hw : wordR c = false := by simp [wordR]; omega
    rw [hw]
    clear hw e2
    go_enter Try.func105, Try.ntmps105
    go_wp2
    go_ret
    exact ⟨rfl, rfl⟩
  · have ha1 := ha
    have t0 : 48 ≤ c := by omega
    have d0 : decide (48 ≤ c) = true := by simp; omega
    have t1 : ¬ c ≤ 57 := by omega
    have d1 : decide (c ≤ 57) = false := by simp; omega
    have t2 : 65 ≤ c := by omega
    have d2 : decide (65 ≤ c) = true := by simp; omega
    have t3 : ¬ c ≤ 90 := by omega
    have d3 : decide (c ≤ 90) = false := by simp; omega
    have t4 : ¬ 97 ≤ c := by omega
    have d4 : decide (97 ≤ c) = false := by simp; omega
    have t5 : c ≤ 122 := by omega
    have d5 : decide (c ≤ 122) = true := by simp; omega
    have t6 : ¬ 128 ≤ c := by omega
    have d6 : decide (128 ≤ c) = false := by simp; omega
    have e1 : (c == 95) = true := by simp; omega
    have e2 : decide (c = 95) = true := by simp; omega
    have hw : wordR c = true := by simp [wordR]; omega
    rw [hw]
    clear hw e2
    go_enter Try.func105, Try.ntmps105
    go_wp2
    go_ret
    exact ⟨rfl, rfl⟩
  · have ha1 := ha
    have t0 : 48 ≤ c := by omega
    have d0 : decide (48 ≤ c) = true := by simp; omega
    have t1 : ¬ c ≤ 57 := by omega
    have d1 : decide (c ≤ 57) = false := by simp; omega
    have t2 : 65 ≤ c := by omega
    have d2 : decide (65 ≤ c) = true := by simp; omega
    have t3 : ¬ c ≤ 90 := by omega
    have d3 : decide (c ≤ 90) = false := by simp; omega
    have t4 : ¬ 97 ≤ c := by omega
    have d4 : decide (97 ≤ c) = false := by simp; omega
    have t5 : c ≤ 122 := by omega
    have d5 : decide (c ≤ 122) = true := by simp; omega
    have t6 : ¬ 128 ≤ c := by omega
    have d6 : decide (128 ≤ c) = false := by simp; omega
    have e1 : (c == 95) = false := by simp; omega
    have e2 : decide (c = 95) = false := by simp; omega
    have hw : wordR c = false := by simp [wordR]; omega
    rw [hw]
    clear hw e2
    go_enter Try.func105, Try.ntmps105
    go_wp2
    go_ret
    exact ⟨rfl, rfl⟩
  · obtain ⟨ha1, ha2⟩ := ha
    have t0 : 48 ≤ c := by omega
    have d0 : decide (48 ≤ c) = true := by simp; omega
    have t1 : ¬ c ≤ 57 := by omega
    have d1 : decide (c ≤ 57) = false := by simp; omega
    have t2 : 65 ≤ c := by omega
    have d2 : decide (65 ≤ c) = true := by simp; omega
    have t3 : ¬ c ≤ 90 := by omega
    have d3 : decide (c ≤ 90) = false := by simp; omega
    have t4 : 97 ≤ c := by omega
    have d4 : decide (97 ≤ c) = true := by simp; omega
    have t5 : c ≤ 122 := by omega
    have d5 : decide (c ≤ 122) = true := by simp; omega
    have t6 : ¬ 128 ≤ c := by omega
    have d6 : decide (128 ≤ c) = false := by simp; omega
    have e1 : (c == 95) = false := by simp; omega
    have e2 : decide (c = 95) = false := by simp; omega
    have hw : wordR c = true := by simp [wordR]; omega
    rw [hw]
    clear hw e2
    go_enter Try.func105, Try.ntmps105
    go_wp2
    go_ret
    exact ⟨rfl, rfl⟩
  · obtain ⟨ha1, ha2⟩ := ha
    have t0 : 48 ≤ c := by omega
    have d0 : decide (48 ≤ c) = true := by simp; omega
    have t1 : ¬ c ≤ 57 := by omega
    have d1 : decide (c ≤ 57) = false := by simp; omega
    have t2 : 65 ≤ c := by omega
    have d2 : decide (65 ≤ c) = true := by simp; omega
    have t3 : ¬ c ≤ 90 := by omega
    have d3 : decide (c ≤ 90) = false := by simp; omega
    have t4 : 97 ≤ c := by omega
    have d4 : decide (97 ≤ c) = true := by simp; omega
    have t5 : ¬ c ≤ 122 := by omega
    have d5 : decide (c ≤ 122) = false := by simp; omega
    have t6 : ¬ 128 ≤ c := by omega
    have d6 : decide (128 ≤ c) = false := by simp; omega
    have e1 : (c == 95) = false := by simp; omega
    have e2 : decide (c = 95) = false := by simp; omega
    have hw : wordR c = false := by simp [wordR]; omega
    rw [hw]
    clear hw e2
    go_enter Try.func105, Try.ntmps105
    go_wp2
    go_ret
    exact ⟨rfl, rfl⟩
  · have ha1 := ha
    have t0 : 48 ≤ c := by omega
    have d0 : decide (48 ≤ c) = true := by simp; omega
    have t1 : ¬ c ≤ 57 := by omega
    have d1 : decide (c ≤ 57) = false := by simp; omega
    have t2 : 65 ≤ c := by omega
    have d2 : decide (65 ≤ c) = true := by simp; omega
    have t3 : ¬ c ≤ 90 := by omega
    have d3 : decide (c ≤ 90) = false := by simp; omega
    have t4 : 97 ≤ c := by omega
    have d4 : decide (97 ≤ c) = true := by simp; omega
    have t5 : ¬ c ≤ 122 := by omega
    have d5 : decide (c ≤ 122) = false := by simp; omega
    have t6 : 128 ≤ c := by omega
    have d6 : decide (128 ≤ c) = true := by simp; omega
    have e1 : (c == 95) = false := by simp; omega
    have e2 : decide (c = 95) = false := by simp; omega
    have hw : wordR c = true := by simp [wordR]; omega
    rw [hw]
    clear hw e2
    go_enter Try.func105, Try.ntmps105
    go_wp2
    go_ret
    exact ⟨rfl, rfl⟩
theorem wclass_eq (c : Int) (big : Bool) (w : World) :
    Calls Try.prog 104 #[.int .i32 c, .bool big] w fun e w' => e = .returned (.int .i64 (cls big c)) ∧ w = w' := by
  by_cases h1 : c = 32
  · have e1 : (c == 32) = true := by simp [h1]
    have hc : cls big c = 0 := by simp [cls, h1]
    rw [hc]
    clear hc h1
    go_enter Try.func104, Try.ntmps104
    go_wp2
    go_ret
    exact ⟨rfl, rfl⟩
  have e1 : (c == 32) = false := by simp [h1]
  by_cases h2 : c = 9
  · have e2 : (c == 9) = true := by simp [h2]
    have hc : cls big c = 0 := by simp [cls, h2]
    rw [hc]
    clear hc h1 h2
    go_enter Try.func104, Try.ntmps104
    go_wp2
    go_ret
    exact ⟨rfl, rfl⟩
  have e2 : (c == 9) = false := by simp [h2]
  cases big with
  | true =>
    have hc : cls true c = 1 := by simp [cls, h1, h2]
    rw [hc]
    clear hc h1 h2
    go_enter Try.func104, Try.ntmps104
    go_wp2
    go_ret
    exact ⟨rfl, rfl⟩
  | false =>
    obtain ⟨b, hb⟩ : ∃ b, wordR c = b := ⟨_, rfl⟩
    have hc : cls false c = if b = true then 1 else 2 := by simp [cls, h1, h2, hb]
    rw [hc]
    have HW := Lib.hid (wword_any c)
    rw [hb] at HW
    clear hc h1 h2 hb
    go_enter Try.func104, Try.ntmps104
    cases b
    · go_wp2_with (go_at_call 105; refine (HW.out _).mono ?_; rintro e w' ⟨rfl, rfl⟩)
      go_ret
      exact ⟨rfl, rfl⟩
    · go_wp2_with (go_at_call 105; refine (HW.out _).mono ?_; rintro e w' ⟨rfl, rfl⟩)
      go_ret
      exact ⟨rfl, rfl⟩
theorem clipped_eq (x : Int) (n : Nat) (w : World) (hn : n ≤ 9223372036854775807) (hx : i64b x) :
    Calls Try.prog 84 #[.int .i64 x, .int .i64 (n : Nat)] w fun e w' => e = .returned (.int .i64 (clipN n x : Nat)) ∧ w = w' := by
  obtain ⟨hx1, hx2⟩ := hx
  have hc : max (min x ((n : Int) - 1)) 0 = ((clipN n x : Nat) : Int) := by unfold clipN; omega
  obtain ⟨k, hk⟩ : ∃ k, clipN n x = k := ⟨_, rfl⟩
  rw [hk] at hc ⊢
  clear hk
  go_enter Try.func84, Try.ntmps84
  go_wp2
  go_ret
  exact ⟨ret_int (by first | exact hc | (simp; omega) | rfl), rfl⟩
set_option maxHeartbeats 1000000 in
theorem wclip_any (F : Nat → Prop) (a : Option Addr) (n c : Nat) (L : List (List Int)) (q : Po) (w : World) (h : RdL F w a n c L) (hq : i64p q) :
    Calls Try.prog 53 #[.slice a n c, q.v] w fun e w' => e = .returned (plV (clipP L q.l q.c)) ∧ Below w.heap.size w w' := by
  obtain ⟨u, v⟩ := q
  show Calls Try.prog 53 #[.slice a n c, .agg #[.int .i64 u, .int .i64 v]] w fun e w' => e = .returned (plV (clipP L u v)) ∧ Below w.heap.size w w'
  obtain ⟨hbu, hbv⟩ := hq
  simp only at hbu hbv
  have hl := h.len
  have hsm := h.small
  by_cases h0 : n = 0
  · subst h0
    have hL : L = [] := List.eq_nil_of_length_eq_zero hl
    have hr : clipP L u v = (0, 0) := by rw [hL]; rfl
    rw [hr]
    clear h hl hL hr
    go_enter Try.func53, Try.ntmps53
    go_wp2
    refine bodyPost_ret (v := plV (0, 0)) ?_ rfl ⟨rfl, ?_⟩
    · rw [results_cell1 rfl]
      go_simp
      rfl
    · (repeat' (refine setCell_below ?_ _ _ _ ?_)) <;> first | exact ((Below.refl _ w).alloc (Nat.le_refl _) _).alloc (by simp) _ | omega
  · have hne : ((n : Int) == 0) = false := by simp; omega
    have hne2 : ¬ n = 0 := h0
    have hL : L ≠ [] := by rintro rfl; simp at hl; omega
    obtain ⟨k, hk⟩ : ∃ k, clipN n u = k := ⟨_, rfl⟩
    have hkn : k < n := by rw [← hk]; exact clipN_lt u (by omega)
    obtain ⟨x, hx⟩ : ∃ x, L[k]? = some x := ⟨L[k]'(by omega), List.getElem?_eq_getElem _⟩
    obtain ⟨b, off, ra, rc, rfl, hbl, hF, e0, hrd, -, -⟩ := h.get (Below.refl _ w) hx
    have hxs := hrd.small
    obtain ⟨m, hm⟩ : ∃ m, x.length = m := ⟨_, rfl⟩
    rw [hm] at e0 hxs
    have hr : clipP L u v = (k, clipN m v) := by
      unfold clipP
      rw [if_neg hL, hl, hk, ← hm]
      simp [lnL, List.getD_eq_getElem?_getD, hx]
    rw [hr]
    have HC1 : Hid (∀ W, Calls Try.prog 84 #[.int .i64 u, .int .i64 (n : Nat)] W fun e w' => e = .returned (.int .i64 (k : Nat)) ∧ W = w') := by
      intro W; rw [← hk]; exact clipped_eq u n W (by omega) hbu
    obtain ⟨j, hj⟩ : ∃ j, clipN m v = j := ⟨_, rfl⟩
    have HC2 : Hid (∀ W, Calls Try.prog 84 #[.int .i64 v, .int .i64 (m : Nat)] W fun e w' => e = .returned (.int .i64 (j : Nat)) ∧ W = w') := by
      intro W; rw [← hj]; exact clipped_eq v m W (by omega) hbv
    rw [hj]
    clear h hl hL hr hrd hx hm h0 hbu hbv
    obtain ⟨w1, hw1⟩ : ∃ w1, (w.alloc (.cells #[.int .i64 u, .int .i64 v] 24)).alloc (.cells #[.int .i64 0, .int .i64 0] 24) = w1 := ⟨_, rfl⟩
    have hb1 : Below w.heap.size w w1 := by rw [← hw1]; exact ((Below.refl _ w).alloc (Nat.le_refl _) _).alloc (by simp) _
    have g1 : w1.heap[w.heap.size]? = some (.cells #[.int .i64 u, .int .i64 v] 24 (0, 0)) := by
      rw [← hw1, ((Below.refl _ (w.alloc _)).alloc (Nat.le_refl _) _).block _ (by simp)]
      exact heap_alloc_new w _
    have g2 : w1.heap[w.heap.size + 1]? = some (.cells #[.int .i64 0, .int .i64 0] 24 (0, 0)) := by
      rw [← hw1]
      have := heap_alloc_new (w.alloc (.cells #[.int .i64 u, .int .i64 v] 24)) (.cells #[.int .i64 0, .int .i64 0] 24)
      simpa using this
    have e1 := (hb1.cell (p := ⟨b, off + k, none⟩) hbl).trans e0
    obtain ⟨a0, a1, z0, z1⟩ := row2 g1
    obtain ⟨a2, a3, z2, z3⟩ := row2 g2
    have HW1 := Lib.hid hw1
    have G1 := Lib.hid g1
    have G2 := Lib.hid g2
    have HB1 := Lib.hid hb1
    have nb : ¬ b = w.heap.size := by omega
    have nb2 : ¬ b = w.heap.size + 1 := by omega
    clear g1 g2 hw1 hb1 e0 hk hj
    go_enter Try.func53, Try.ntmps53
    go_upto_region 1 with fail
    rw [HW1.out]
    go_upto_region 4 with (go_at_call 84; refine (HC1.out _).mono ?_; rintro e w' ⟨rfl, hw⟩; subst hw)
    obtain ⟨w2, hw2⟩ : ∃ w2, w1.setCell ⟨w.heap.size, 0, none⟩ (.int .i64 (k : Int)) = w2 := ⟨_, rfl⟩
    rw [hw2]
    have hb2 : Below w.heap.size w w2 := by rw [← hw2]; exact setCell_below HB1.out _ _ _ (Nat.le_refl _)
    have q0 : w2.heap[w.heap.size]? = some (.cells #[.int .i64 (k : Int), .int .i64 v] 24 (0, 0)) := by rw [← hw2]; exact heap_set G1.out 0 _
    have q1 : w2.heap[w.heap.size + 1]? = some (.cells #[.int .i64 0, .int .i64 0] 24 (0, 0)) := by rw [← hw2, Below.heap_setCell _ _ _ _ (by show ¬ _ = _; simp)]; exact G2.out
    have q2 : w2.cell? ⟨b, off + k, none⟩ = some (.slice ra m rc) := by rw [World.cell?_of_block (a := ⟨b, off + k, none⟩) (w := w1) (by rw [← hw2]; exact Below.heap_setCell _ _ _ _ (by show ¬ _ = _; exact nb))]; exact e1
    obtain ⟨b0, b1, y0, y1⟩ := row2 q0
    obtain ⟨b2, b3, y2, y3⟩ := row2 q1
    have HB2 := Lib.hid hb2
    clear q0 q1 hb2 hw2 a0 a1 a2 a3 z0 z1 z2 z3 e1 G1 G2 HW1 HB1 HC1
    go_region_with (go_at_call 84; refine (HC2.out _).mono ?_; rintro e w' ⟨rfl, hw⟩; subst hw)
    all_goals
      go_wp2
      refine bodyPost_ret (v := plV (k, j)) ?_ rfl ⟨rfl, ?_⟩
      · rw [results_cell1 rfl]
        go_simp
        rfl
      · have h2 := HB2.out
        (repeat' (first | exact h2 | omega | refine setCell_below ?_ _ _ _ ?_ | refine Below.drew ?_ | refine bdrewN ?_ _))
end Go.Proofs.Ytfldjoiohejilaa.U
