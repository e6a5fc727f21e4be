/-
  The contracts of a feeder: Flush, Held, Feed; of NewFeeder and Decode.
-/
import Derived.Test.YtcjngpgicegacaaURep
import Derived.Test.YtcjngpgicegacaaUNext
import Derived.Deep.DeepCutAuto
import Derived.Deep.LoopGhost
import Derived.Deep.RegionWith
namespace Go.Proofs.Ytcjngpgicegacaa.U
open Go.RowKit
set_option linter.unusedVariables false
set_option linter.unusedSimpArgs false

theorem own_mono {w : World} {B B' : Nat} {e : TypeId} {s : Nat} {v : Value} {n : Nat} {xs : List Value} (h : w.ownsRow B e s v n xs) (hB : B' ≤ B) : w.ownsRow B' e s v n xs := by
  obtain ⟨h1, h2⟩ := h
  refine ⟨h1, ?_⟩
  rcases h2 with h2 | ⟨g, cap, cur, hv, hg, r⟩
  · exact .inl h2
  · exact .inr ⟨g, cap, cur, hv, by omega, r⟩
theorem gb_below' {w w' : World} (h : Below w.heap.size w w') : w.grownBy w' none := ⟨h.os, h.tape, h.output, h.size, fun k hk _ => h.block k hk⟩
theorem own_slice {w : World} {B : Nat} {e : TypeId} {s : Nat} {v : Value} {n : Nat} {xs : List Value} (h : w.ownsRow B e s v n xs) : ∃ a c, v = .slice a n c := by
  obtain ⟨h1, h2⟩ := h
  rcases h2 with ⟨rfl, rfl⟩ | ⟨g, cap, cur, hv, hg, r⟩
  · exact ⟨none, 0, rfl⟩
  · exact ⟨_, _, hv⟩
theorem own_below {w w' : World} {B : Nat} {e : TypeId} {s : Nat} {v : Value} {n : Nat} {xs : List Value} (h : w.ownsRow B e s v n xs) (hb : Below w.heap.size w w') (hB : B ≤ w.heap.size) : w'.ownsRow B e s v n xs :=
  h.kept (row := none) (gb_below' hb) (by cases hv : v.ownBlock <;> simp)
theorem gb_below {w w' : World} (h : Below w.heap.size w w') (row : Option Nat) : w.grownBy w' row := ⟨h.os, h.tape, h.output, h.size, fun k hk _ => h.block k hk⟩
theorem own_grown {w w' : World} {B b : Nat} {e : TypeId} {s : Nat} {v : Value} {n : Nat} {xs : List Value} (h : w.ownsRow B e s v n xs) (hg : w.grownBy w' (some b)) (hB : b < B) : w'.ownsRow B e s v n xs :=
  h.kept hg (.inr fun hv => by have := (h.lt b hv).1; omega)
theorem gb_trans {w w1 w2 : World} {row : Option Nat} (h : w.grownBy w1 row) (k : w1.grownBy w2 row) : w.grownBy w2 row :=
  ⟨k.os.trans h.os, k.tape.trans h.tape, k.output.trans h.output, Nat.le_trans h.size k.size, fun i hi hr => (k.block i (Nat.lt_of_lt_of_le hi h.size) hr).trans (h.block i hi hr)⟩
theorem gb_set {w w1 : World} {b : Nat} (h : w.grownBy w1 (some b)) (o : Nat) (v : Value) : w.grownBy (w1.setCell ⟨b, o, none⟩ v) (some b) :=
  gb_trans h ⟨rfl, rfl, rfl, by simp [World.setCell], fun k _ hk => Below.heap_setCell _ _ _ _ (fun e => hk (by simpa using e))⟩

/-- copy into a row that lies in block g, the call's own or not -/
theorem wpList_copy_into {P : Program} {w : World} {ops : Array Oper} {rest : List Oper} {o : Oper} {a : Act} {Q : Exit → Act → World → Prop} (hgd : o.guard = none) (d s : Operand) (dT sT : TypeId)
    (ho : o.op = .call { callee := .builtin .copy, args := #[d, s], argTypes := #[dT, sT] }) (elem : TypeId) (hu : P.underlying dT = some (.slice elem)) (hsz : (P.info? elem).map (·.size) = some 1)
    (dp sp : Option Addr) (dLen dCap sLen sCap : Nat) (hd : a.eval d = .slice dp dLen dCap) (hs : a.eval s = .slice sp sLen sCap)
    (g off : Nat) (cur : List Value) (t : TypeId) (hg : w.heap[g]? = some (.cells cur.toArray t (0, 0))) (cs : List Value) (hn : cs.length = Nat.min sLen dLen)
    (hpos : 0 < cs.length → dp = some ⟨g, off, none⟩ ∧ ∃ ad, sp = some ad ∧ ∀ j v, cs[j]? = some v → w.cell? (ad.add j) = some v)
    (hfit : off + cs.length ≤ cur.length) (h1 : ∀ v ∈ cs, v.oneCell' = true)
    (h : ∀ w', Hid (w'.heap[g]? = some (.cells (splice cur off cs).toArray t (0, 0))) → w.grownBy w' (some g) → wpList P ops Q rest (a.put o.dst (goInt cs.length)) w') :
    wpList P ops Q (o :: rest) a w := by
  by_cases h0 : cs.length = 0
  · obtain rfl : cs = [] := List.eq_nil_of_length_eq_zero h0
    refine wpList_copy_nothing hgd d s dT sT ho elem hu hsz dp sp dLen dCap sLen sCap hd hs (by simpa using hn.symm) ?_
    exact h w (show _ = _ by simpa [splice] using hg) ⟨rfl, rfl, rfl, Nat.le_refl _, fun _ _ _ => rfl⟩
  · obtain ⟨rfl, ad, rfl, hsrc⟩ := hpos (by omega)
    refine wpList_copy_own hgd d s dT sT ho elem hu hsz g off dLen dCap ad sLen sCap hd hs cur.toArray t hg cs hn hsrc (by simpa using hfit) h1 ?_
    exact h _ (show _ = _ by simpa [splice] using setRow_heap w g _ _ t _ hg) ⟨rfl, rfl, rfl, by simp [World.setRow], fun k _ hk => setRow_other w g k _ (fun e => hk (by rw [e]))⟩

/-- what can be read, as cells -/
theorem Rd_cells {k : IntKind} {w : World} {a : Option Addr} {n c : Nat} {ys : List Int} (h : Rd k w a n c ys) (hp : 0 < n) : ∃ ad, a = some ad ∧ ∀ j v, (ys.map (Value.int k))[j]? = some v → w.cell? (ad.add j) = some v := by
  obtain ⟨r1, r2, r3, r4, r6, r5⟩ := h
  obtain ⟨b, off, ha, hc⟩ := r5 hp
  refine ⟨_, ha, fun j u hu => ?_⟩
  rw [List.getElem?_map] at hu
  by_cases hj : j < ys.length
  · rw [List.getElem?_eq_getElem hj] at hu
    simp only [Option.map_some, Option.some.injEq] at hu
    subst hu
    have := hc j (by omega)
    rw [List.getD_eq_getElem?_getD, List.getElem?_eq_getElem hj] at this
    by_cases h0 : j = 0
    · subst h0; simpa [Addr.add] using this
    · simpa [Addr.add, h0] using this
  · rw [List.getElem?_eq_none (by omega)] at hu; simp at hu

theorem sizeB : (Try.prog.info? 5).map (·.size) = some 1 := by kernel_rfl

/-- the row of a feeder, bytes laid over its first places -/
theorem fd_splice (h0 h1 h2 c : Int) (ys : List Int) (hl : ys.length ≤ 3) : ∃ g0 g1 g2 : Int, splice [Value.int .u8 h0, .int .u8 h1, .int .u8 h2, .int .i64 c] 0 (ys.map (Value.int .u8)) = [.int .u8 g0, .int .u8 g1, .int .u8 g2, .int .i64 c] ∧
    ys = [g0, g1, g2].take ys.length ∧ (g0 = h0 ∨ g0 ∈ ys) ∧ (g1 = h1 ∨ g1 ∈ ys) ∧ (g2 = h2 ∨ g2 ∈ ys) := by
  match ys, hl with
  | [], _ => exact ⟨h0, h1, h2, by simp [splice], by simp, by simp, by simp, by simp⟩
  | [x], _ => exact ⟨x, h1, h2, by simp [splice], by simp, by simp, by simp, by simp⟩
  | [x, y], _ => exact ⟨x, y, h2, by simp [splice], by simp, by simp, by simp, by simp⟩
  | [x, y, z], _ => exact ⟨x, y, z, by simp [splice], by simp, by simp, by simp, by simp⟩
  | _ :: _ :: _ :: _ :: _, hl => simp at hl

/-- A feeder in block bf, that holds 'held'. -/
def FdAt (w : World) (bf : Nat) (held : List Int) : Prop :=
  ∃ h0 h1 h2 : Int, w.heap[bf]? = some (.cells #[.int .u8 h0, .int .u8 h1, .int .u8 h2, .int .i64 held.length] 45 (0, 0)) ∧
    held = [h0, h1, h2].take held.length ∧ held.length ≤ 3 ∧ (0 ≤ h0 ∧ h0 ≤ 255) ∧ (0 ≤ h1 ∧ h1 ≤ 255) ∧ (0 ≤ h2 ∧ h2 ≤ 255)

theorem FdAt.lt {w bf held} (h : FdAt w bf held) : bf < w.heap.size := by
  obtain ⟨h0, h1, h2, hh, _⟩ := h
  by_cases hb : bf < w.heap.size
  · exact hb
  · rw [Array.getElem?_eq_none (by omega)] at hh; cases hh
theorem FdAt.below {w w' bf held} (h : FdAt w bf held) (hb : Below w.heap.size w w') : FdAt w' bf held := by
  have hl := h.lt
  obtain ⟨h0, h1, h2, hh, r⟩ := h
  exact ⟨h0, h1, h2, (hb.block bf hl).trans hh, r⟩

theorem flush_any (bf : Nat) (held : List Int) (w : World) (hf : FdAt w bf held) :
    Calls Try.prog 25 #[.pointer (some ⟨bf, 0, none⟩)] w fun e w' => ∃ v, e = .returned v ∧
      w'.ownsRow w.heap.size 21 1 v held.length (List.replicate held.length (.int .i32 65533)) ∧ FdAt w' bf [] ∧ w.grownBy w' (some bf) := by
  have hlt := hf.lt
  obtain ⟨h0, h1, h2, hh, hx, hl, b0, b1, b2⟩ := hf
  obtain ⟨n, hn⟩ : ∃ n, held.length = n := ⟨_, rfl⟩
  rw [hn] at hh hl hx ⊢
  have c3 : w.cell? ⟨bf, 3, none⟩ = some (.int .i64 n) := by rw [cell_of_row w bf 3 _ _ _ hh]; rfl
  clear hx hn
  have HH := Lib.hid hh; clear hh
  go_enter Try.func25, Try.ntmps25
  go_wp2_with fail
  have hc : (w.alloc (.cells #[.int .i32 65533] 21)).cell? ⟨w.heap.size, 0, none⟩ = some (.int .i32 65533) := by
    rw [cell_of_row _ _ _ _ _ _ (heap_alloc_new w _)]; rfl
  refine (repeat_any _ 65533 n _ hc (by omega)).mono ?_
  rintro e w1 ⟨v, rfl, hown, hb⟩
  have hown' := own_mono hown (B' := w.heap.size) (by simp)
  have hb' : Below w.heap.size w w1 := ((Below.refl _ w).alloc (Nat.le_refl _) _).trans (hb.mono (by simp))
  have HH1 := Lib.hid ((hb'.block bf hlt).trans HH.out)
  have d3 : w1.cell? ⟨bf, 3, none⟩ = some (.int .i64 n) := by rw [cell_of_row w1 bf 3 _ _ _ HH1.out]; rfl
  have d3f : w1.frozen? ⟨bf, 3, none⟩ = false := frozen_of_row w1 bf 3 _ _ HH1.out
  clear hc c3 hb hown
  go_wp2
  go_ret
  refine ⟨v, rfl, ownsRow_setCell_below hown' hlt _, ⟨h0, h1, h2, ?_, rfl, by simp, b0, b1, b2⟩, gb_set (gb_below hb' _) _ _⟩
  rw [heap_setCell_same w1 bf 3 _ _ _ HH1.out]; rfl

theorem held_any (bf : Nat) (held : List Int) (w : World) (hf : FdAt w bf held) :
    Calls Try.prog 24 #[.pointer (some ⟨bf, 0, none⟩)] w fun e w' => e = .returned (.int .i64 held.length) ∧ w = w' := by
  have hlt := hf.lt
  obtain ⟨h0, h1, h2, hh, hx, hl, b0, b1, b2⟩ := hf
  obtain ⟨n, hn⟩ : ∃ n, held.length = n := ⟨_, rfl⟩
  rw [hn] at hh hl hx ⊢
  have c3 : w.cell? ⟨bf, 3, none⟩ = some (.int .i64 n) := by rw [cell_of_row w bf 3 _ _ _ hh]; rfl
  clear hx hn hh
  go_enter Try.func24, Try.ntmps24
  go_wp2
  go_ret
  exact ⟨rfl, rfl⟩

theorem newFeeder_any (w : World) :
    Calls Try.prog 22 #[] w fun e w' => e = .returned (.pointer (some ⟨w.heap.size, 0, none⟩)) ∧ FdAt w' w.heap.size [] ∧ Below w.heap.size w w' := by
  go_enter Try.func22, Try.ntmps22
  go_wp2
  go_ret
  exact ⟨rfl, ⟨0, 0, 0, heap_alloc_new w _, rfl, by simp, by omega, by omega, by omega⟩, (Below.refl _ _).alloc (Nat.le_refl _) _⟩

def lenOf : Value → Nat
  | .slice _ n _ => n
  | _ => 0

set_option maxHeartbeats 1000000 in
theorem feed_any (bf : Nat) (held : List Int) (a : Option Addr) (len cap : Nat) (xs : List Int) (w : World) (hf : FdAt w bf held) (hr : Rd .u8 w a len cap xs) (hbig : held.length + len ≤ 35184372088832) :
    Calls Try.prog 23 #[.pointer (some ⟨bf, 0, none⟩), .slice a len cap] w fun e w' => ∃ v, e = .returned v ∧
      w'.ownsRow w.heap.size 21 1 v (feedV (held ++ xs)).1.length ((feedV (held ++ xs)).1.map (Value.int .i32)) ∧ FdAt w' bf (feedV (held ++ xs)).2 ∧ w.grownBy w' (some bf) := by
  obtain ⟨i0, hi, hz0, hz1, hz2⟩ := info_parts infoR
  have hlt := hf.lt
  have HF := Lib.hid hf
  obtain ⟨h0, h1, h2, hh, hx, hl, b0, b1, b2⟩ := hf
  obtain ⟨n, hn⟩ : ∃ n, held.length = n := ⟨_, rfl⟩
  rw [hn] at hh hl hx hbig
  have c3 : w.cell? ⟨bf, 3, none⟩ = some (.int .i64 n) := by rw [cell_of_row w bf 3 _ _ _ hh]; rfl
  have HH := Lib.hid hh; clear hh
  have HX := Lib.hid hx; clear hx
  have HN := Lib.hid hn; clear hn
  have HR := Lib.hid hr; clear hr
  go_enter Try.func23, Try.ntmps23
  go_upto_if 15 with fail
  go_cut [1] (fun s1 wx => ∃ a1 n1 c1, s1 = .slice a1 n1 c1 ∧ Rd .u8 wx a1 n1 c1 (held ++ xs) ∧ Below w.heap.size w wx)
  case first =>
    by_cases hn0 : n = 0
    · subst hn0
      go_wp2_with fail
      go_meet
      refine ⟨a, len, cap, rfl, ?_, Below.refl _ _⟩
      have : held = [] := List.eq_nil_of_length_eq_zero HN.out
      rw [this]; exact HR.out
    · have hp : (0 : Int) < n := by omega
      have hn3 : (n : Int) ≤ 3 := by omega
      have hRd : Hid (∀ W, Below w.heap.size w W → Rd .u8 W (some ⟨bf, 0, none⟩) n 3 held ∧ Rd .u8 W a len cap xs) := by
        intro W hW
        refine ⟨⟨HN.out, by omega, by unfold maxLen; omega, ?_, (fun h => by cases h), fun _ => ⟨bf, 0, rfl, fun i hi => ?_⟩⟩, HR.out.below hW⟩
        · intro x hx
          rw [HX.out] at hx
          have := List.mem_of_mem_take hx
          simp only [List.mem_cons, List.not_mem_nil, or_false] at this
          rcases this with rfl | rfl | rfl <;> simp [Lit.wf, IntKind.min, IntKind.max, IntKind.signed, IntKind.bits] <;> omega
        · rw [hW.cell (p := ⟨bf, 0 + i, none⟩) hlt, cell_of_row w bf _ _ _ _ HH.out, HX.out, List.getD_eq_getElem?_getD, List.getElem?_take, if_pos hi]
          have hi3 : i < 3 := by omega
          match i, hi3 with
          | 0, _ => rfl
          | 1, _ => rfl
          | 2, _ => rfl
      go_wp2_with fail
      go_region_with (go_at_call 31; go_must (refine (concat_2 w.heap.size (some ⟨bf, 0, none⟩) a n 3 len cap held xs _ (by simp) (by simp) (hRd.out _ (by repeat (first | exact Below.refl _ _ | apply Below.drew | refine Below.alloc ?_ (by simp) _))).1 (hRd.out _ (by repeat (first | exact Below.refl _ _ | apply Below.drew | refine Below.alloc ?_ (by simp) _))).2 (by omega)).mono ?_); rintro e w1 ⟨v, rfl, hown, hb⟩)
      go_wp2_with fail
      go_meet
      obtain ⟨a1, c1, hv⟩ := own_slice hown
      have hrd := Rd.own (k := .u8) (xs := held ++ xs) (hv ▸ hown) (fun x hx => by
        rcases List.mem_append.1 hx with hx | hx
        · exact (hRd.out w (Below.refl _ _)).1.2.2.2.1 x hx
        · exact HR.out.2.2.2.1 x hx)
      exact ⟨a1, _, c1, hv, hrd, ((Below.refl _ w).alloc (Nat.le_refl _) _).drew.trans (hb.mono (B' := w.heap.size) (by simp))⟩
  case rest =>
    obtain ⟨a1, n1, c1, rfl, hrd, hb1⟩ := hcut
    have HB1 := Lib.hid hb1
    have hB1 := hb1.size
    obtain ⟨all, hall⟩ : ∃ all, held ++ xs = all := ⟨_, rfl⟩
    rw [hall] at hrd
    have hal : all.length = n1 := hrd.1
    have hbig1 : n1 ≤ 35184372088832 := by rw [← hal, ← hall, List.length_append, HN.out, HR.out.1]; exact hbig
    obtain ⟨RS, hRS⟩ : ∃ RS, feedV all = RS := ⟨_, rfl⟩
    have HRS := Lib.hid hRS; clear hRS
    have HRD := Lib.hid hrd; clear hrd
    have HALL := Lib.hid hall; clear hall hal
    obtain ⟨w1, hw1⟩ : ∃ w1, w1 = wc := ⟨_, rfl⟩
    subst hw1
    have HS : Hid (Rd .u8 w1 a1 n1 c1 all) := HRD.out
    go_wp2_with fail
    go_loopw [1, 5] (fun b l wr => ∃ a2 n2 c2 rest ls, b = .slice a2 n2 c2 ∧ Rd .u8 w1 a2 n2 c2 rest ∧ Hid (RS = (ls ++ (feedV rest).1, (feedV rest).2)) ∧ ls.length + n2 ≤ n1 ∧ Hid (wr.ownsRow w1.heap.size 21 1 l ls.length (ls.map (Value.int .i32))) ∧ Below w1.heap.size w1 wr)
      (fun b _ _ => lenOf b)
    case atStart => exact ⟨a1, n1, c1, all, [], rfl, HRD.out, (by show RS = _; rw [HRS.out, List.nil_append]), by simp, World.ownsRow_nil _ _ _ _, Below.refl _ _⟩
    case round =>
      obtain ⟨a2, n2, c2, rest, ls, rfl, hrd2, HL, hle, hown, hbl⟩ := hrel
      have hrdw := Lib.hid (hrd2.below hbl)
      have hsm := hrd2.small
      have hn2 := Lib.hid hrd2.1
      have HRD2 := Lib.hid hrd2; clear hrd2
      have hszr := hbl.size
      obtain ⟨⟨r, nn, more⟩, hnx⟩ : ∃ q, nextV rest = q := ⟨_, rfl⟩
      have hout := nextV_out hnx
      have HNX := Lib.hid hnx
      cases more with
      | true =>
        have hr3 : n2 ≤ 3 := by have := hn2.out; have := (hout.1 rfl).1; omega
        obtain ⟨_, rfl, rfl⟩ := hout.1 rfl
        have hfe := feedV_more hnx
        rw [hfe] at HL
        have HFE := Lib.hid hfe
        clear hnx hfe hout
        go_wp2_with (first
          | (go_at_call 20; refine (next_any a2 n2 c2 rest 0 0 true _ hrdw.out HNX).mono ?_; rintro e w2 ⟨rfl, hb2⟩; have hb02 := Lib.hid (HB1.out.trans ((hbl.mono (B' := w.heap.size) hB1).trans (hb2.mono (B' := w.heap.size) (by omega)))); have HH2 := Lib.hid ((hb02.out.block bf hlt).trans HH.out); have c32 : w2.cell? ⟨bf, 3, none⟩ = some (.int .i64 n) := (by rw [cell_of_row w2 bf 3 _ _ _ HH2.out]; rfl); have hrdw2 := Lib.hid (hrdw.out.below hb2); have hown2 := Lib.hid (own_below hown.out hb2 hszr))
          | (with_reducible refine wpList_copy_into rfl (.tmp 38) (.tmp 39) 22 22 rfl 5 Try.underlying22 sizeB _ _ _ _ _ _ rfl rfl bf 0 [.int .u8 h0, .int .u8 h1, .int .u8 h2, .int .i64 n] 45 HH2.out (rest.map (Value.int .u8)) ?e1 ?e2 ?e3 ?e4 ?_))
        case e1 => rw [List.length_map, hn2.out]; exact (Nat.min_eq_left hr3).symm
        case e2 =>
          intro hp
          obtain ⟨ad, h1, h2⟩ := Rd_cells hrdw2.out (by have := hn2.out; omega)
          exact ⟨ad, h1, fun j x hx => h2 j _ (by simpa using hx)⟩
        case e3 => have := hn2.out; simp; omega
        case e4 => intro v hv; simp only [List.mem_map] at hv; obtain ⟨x, _, rfl⟩ := hv; rfl
        intro w5 hg5 hgb5
        obtain ⟨g0, g1, g2, hsp, htk, m0, m1, m2⟩ := fd_splice h0 h1 h2 n rest (by have := hn2.out; omega)
        have HG5 : Hid (w5.heap[bf]? = some (.cells #[.int .u8 g0, .int .u8 g1, .int .u8 g2, .int .i64 n] 45 (0, 0))) := by
          have h := hg5.out
          rw [hsp] at h
          exact h
        have c35 : w5.cell? ⟨bf, 3, none⟩ = some (.int .i64 n) := by rw [cell_of_row w5 bf 3 _ _ _ HG5.out]; rfl
        have f35 : w5.frozen? ⟨bf, 3, none⟩ = false := frozen_of_row w5 bf 3 _ _ HG5.out
        have hby : ∀ x ∈ rest, 0 ≤ x ∧ x ≤ 255 := fun x hx => wf_u8_in (HRD2.out.2.2.2.1 x hx)
        have Q0 : Hid ((0 ≤ g0 ∧ g0 ≤ 255) ∧ (0 ≤ g1 ∧ g1 ≤ 255) ∧ (0 ≤ g2 ∧ g2 ≤ 255)) :=
          ⟨by rcases m0 with rfl | h; exact b0; exact hby _ h, by rcases m1 with rfl | h; exact b1; exact hby _ h, by rcases m2 with rfl | h; exact b2; exact hby _ h⟩
        have HTK := Lib.hid htk
        have Hhown5 := Lib.hid (own_mono (B' := w.heap.size) (own_grown hown2.out hgb5 (by omega)) hB1)
        have HGB := Lib.hid (gb_trans (gb_below hb02.out (some bf)) hgb5)
        clear hsp htk m0 m1 m2 hby hg5 hgb5 c32
        go_wp2
        go_ret
        have hfin : feedV (held ++ xs) = (ls, rest) := by rw [HALL.out, HRS.out, HL.out, List.append_nil]
        rw [hfin]
        refine ⟨_, rfl, ownsRow_setCell_below Hhown5.out hlt _, ⟨g0, g1, g2, ?_, HTK.out, by have := hn2.out; show rest.length ≤ 3; omega, Q0.out.1, Q0.out.2.1, Q0.out.2.2⟩, gb_set HGB.out _ _⟩
        rw [heap_setCell_same w5 bf 3 _ _ _ HG5.out]; rfl
      | false =>
        obtain ⟨h1n, h2n, h4n⟩ := hout.2 rfl
        obtain ⟨m, rfl⟩ : ∃ m : Nat, nn = m := ⟨nn.toNat, by omega⟩
        have hfe := feedV_step hnx
        rw [hfe, show ((m : Int)).toNat = m from by simp] at HL
        have hm2 : m ≤ n2 := by have := hn2.out; omega
        clear hnx hfe hout
        go_wp2_with (first
          | (go_at_call 20; refine (next_any a2 n2 c2 rest r m false _ hrdw.out HNX).mono ?_; rintro e w2 ⟨rfl, hb2⟩)
          | (at_builtin; go_must (refine wpList_appNew rfl _ _ 24 rfl w1.heap.size 21 i0 (.int .i32 0) 4 Try.underlying24 hi hz0 hz1 hz2 rfl _ _ _ rfl (own_below hown.out hb2 hszr) _ _ 1 rfl rfl ?d1 ?d2 ?d3 ?d4 ?_)))
        case d1 => simp [Value.oneCell']
        case d2 => unfold maxLen; omega
        case d3 => omega
        case d4 => have := hb2.size; omega
        intro v3 w3 ho3 hb3
        go_wp2_with fail
        go_roundw
        case rel => exact ⟨_, _, _, rest.drop m, ls ++ [r], rfl, (by simpa using HRD2.out.drop m hm2), (by show RS = _; rw [HL.out, List.append_assoc]; rfl), (by simp; omega), (by show World.ownsRow _ _ _ _ _ _ _; simpa using ho3), hbl.trans ((hb2.mono hszr).trans hb3)⟩
        case measure => simp only [lenOf]; omega
end Go.Proofs.Ytcjngpgicegacaa.U
