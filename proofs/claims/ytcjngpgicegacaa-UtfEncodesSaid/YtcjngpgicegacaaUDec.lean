/-
  The contract of Decode; of the document's comparison of two lists of runes, where they are the same.
-/
import Derived.Test.YtcjngpgicegacaaUFeed
import Derived.Deep.QuietTactic
import Derived.BigQuiet
namespace Go.Proofs.Ytcjngpgicegacaa.U
open Go.RowKit
set_option linter.unusedVariables false
set_option linter.unusedSimpArgs false

theorem feedN_len (f : Nat) : ∀ (b : List Int), (feedN f b).1.length + (feedN f b).2.length ≤ b.length := by
  induction f with
  | zero => intro b; simp [feedN]
  | succ f ih =>
    intro b
    simp only [feedN]
    rcases hx : nextV b with ⟨r, n, m⟩
    cases m with
    | true => simp
    | false =>
      have hn := (nextV_out hx).2 rfl
      have := ih (b.drop n.toNat)
      simp at this ⊢
      omega
theorem feedV_len (b : List Int) : (feedV b).1.length + (feedV b).2.length ≤ b.length := feedN_len _ b

theorem wf_fffd (n : Nat) : ∀ x ∈ List.replicate n (65533 : Int), (Lit.int .i32 x).wf = true := by
  intro x hx; rw [List.mem_replicate] at hx; rw [hx.2]; decide

set_option maxHeartbeats 1000000 in
theorem decode_any (a : Option Addr) (len cap : Nat) (xs : List Int) (w : World) (hr : Rd .u8 w a len cap xs) (hbig : len ≤ 35184372088832) :
    Calls Try.prog 11 #[.slice a len cap] w fun e w' => ∃ v, e = .returned v ∧
      w'.ownsRow w.heap.size 21 1 v (decV xs).length ((decV xs).map (Value.int .i32)) ∧ Below w.heap.size w w' := by
  obtain ⟨i0, hi, hz0, hz1, hz2⟩ := info_parts infoR
  have HR := Lib.hid hr; clear hr
  have hfl := Lib.hid (feedV_len xs)
  have hD : Hid (decV xs = (feedV xs).1 ++ List.replicate (feedV xs).2.length 65533) := rfl
  obtain ⟨⟨l, h⟩, hq⟩ : ∃ q, feedV xs = q := ⟨_, rfl⟩
  rw [hq] at hD hfl
  have HQ := Lib.hid hq; clear hq
  have HF : Hid (∀ c : Obj, c = .cells #[.int .u8 0, .int .u8 0, .int .u8 0, .int .i64 0] 45 → FdAt (w.alloc c) w.heap.size []) := by
    intro c hc; subst hc
    exact ⟨0, 0, 0, heap_alloc_new w _, rfl, by simp, by omega, by omega, by omega⟩
  go_enter Try.func11, Try.ntmps11
  go_wp2_with fail
  refine (feed_any w.heap.size [] a len cap xs _ (HF.out _ rfl) (HR.out.alloc _) (by simp; omega)).mono ?_
  rintro e w1 ⟨v1, rfl, hown1, hfd1, hg1⟩
  rw [List.nil_append, HQ.out] at hown1 hfd1
  have hs1 := hg1.size
  have Hown1 := Lib.hid hown1; clear hown1
  have Hfd1 := Lib.hid hfd1; clear hfd1
  go_wp2_with (first
    | (go_at_call 25; refine (flush_any w.heap.size h _ Hfd1.out).mono ?_; rintro e w2 ⟨v2, rfl, hown2, hfd2, hg2⟩; have Hown2 := Lib.hid hown2; clear hown2; have hs2 := hg2.size; obtain ⟨a2, c2, hv2⟩ := own_slice Hown2.out; subst hv2)
    | (at_builtin; go_must (refine wpList_appRd rfl _ _ 24 rfl w.heap.size 21 i0 (.int .i32 0) 4 Try.underlying24 hi hz0 hz1 hz2 rfl _ _ _ rfl (own_mono (own_grown Hown1.out hg2 (by simp)) (by simp)) .i32 _ _ _ (List.replicate h.length 65533) rfl (Rd.own (by simpa using Hown2.out) (wf_fffd _)) ?d1 ?d2 ?d3 ?_)))
  case d1 => have := hfl.out; have := HR.out.1; unfold maxLen; omega
  case d2 => have := hfl.out; have := HR.out.1; omega
  case d3 => simp at hs1; omega
  intro v3 w3 ho3 hb3
  go_wp2
  go_ret
  refine ⟨v3, rfl, by rw [hD.out]; simpa using ho3, ?_⟩
  have hb0 := (Below.refl w.heap.size w).alloc (Nat.le_refl _) (.cells #[.int .u8 0, .int .u8 0, .int .u8 0, .int .i64 0] 45)
  have hb1 := hb0.grown hg1 (by simp) (fun k hk => by simp only [Option.some.injEq] at hk; omega)
  have hb2 := hb1.grown hg2 (by simp at hs1; omega) (fun k hk => by simp only [Option.some.injEq] at hk; omega)
  exact hb2.trans hb3

/-- The document's comparison of two lists of runes, that are the same. -/
theorem runes_same (a1 a2 : Option Addr) (len c1 c2 : Nat) (xs : List Int) (w : World) (h1 : Rd .i32 w a1 len c1 xs) (h2 : Rd .i32 w a2 len c2 xs) :
    Calls Try.prog 10 #[.slice a1 len c1, .slice a2 len c2] w fun e w' => e = .returned (.bool true) ∧ Below w.heap.size w w' := by
  have hsm := h1.small
  have heq : ((len : Int) != (len : Int)) = false := by simp
  by_cases h0 : len = 0
  · subst h0
    go_enter Try.func10, Try.ntmps10
    go_wp2_with fail
    go_loopw [5] (fun i wr => i = .int .i64 0 ∧ wr = w) (fun _ _ => 0)
    case atStart => exact ⟨rfl, rfl⟩
    case round =>
      obtain ⟨rfl, rfl⟩ := hrel
      go_wp2
      go_ret
      exact ⟨rfl, Below.refl _ _⟩
  · obtain ⟨p1, o1, rfl, hc1⟩ := h1.2.2.2.2.2 (by omega)
    obtain ⟨p2, o2, rfl, hc2⟩ := h2.2.2.2.2.2 (by omega)
    have hp1 := block_lt_of_cell (hc1 0 (by omega))
    have hp2 := block_lt_of_cell (hc2 0 (by omega))
    have HC1 := Lib.hid hc1; clear hc1
    have HC2 := Lib.hid hc2; clear hc2
    clear h1 h2
    go_enter Try.func10, Try.ntmps10
    go_wp2_with fail
    go_loopw [5] (fun i wr => ∃ k : Nat, k ≤ len ∧ i = .int .i64 k ∧ Below w.heap.size w wr) (fun i _ => len - (intOf i).toNat)
    case atStart => exact ⟨0, by omega, rfl, Below.refl _ _⟩
    case round =>
      obtain ⟨k, hk, rfl, hbl⟩ := hrel
      by_cases hlt : k < len
      · have e1 := (hbl.cell (p := ⟨p1, o1 + k, none⟩) hp1).trans (HC1.out k hlt)
        have e2 := (hbl.cell (p := ⟨p2, o2 + k, none⟩) hp2).trans (HC2.out k hlt)
        obtain ⟨x, hx⟩ : ∃ x, xs.getD k 0 = x := ⟨_, rfl⟩
        rw [hx] at e1 e2
        clear hx
        have hxx : (x != x) = false := by simp
        go_wp2_with fail
        go_quiet (fail)
        go_wp2_with fail
        go_roundw
        case rel => exact ⟨k + 1, by omega, by go_num, bdrewN hbl _⟩
        case measure => simp [intOf]; omega
      · obtain rfl : k = len := by omega
        go_wp2
        go_ret
        exact ⟨rfl, hbl⟩
end Go.Proofs.Ytcjngpgicegacaa.U
