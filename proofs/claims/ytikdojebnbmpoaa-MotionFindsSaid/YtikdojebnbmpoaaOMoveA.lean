/-
  The program's Move tells what mvR tells. (MADE by wip/tools/gen_omove.py.)
-/
import Derived.Test.YtikdojebnbmpoaaOMvK
import Derived.Test.YtikdojebnbmpoaaOMo
namespace Go.Proofs.Ytikdojebnbmpoaa.U
open Go.RowKit
set_option linter.unusedVariables false
set_option linter.unusedSimpArgs false
set_option maxRecDepth 100000

/-- the table of motions: keys, how they lead, what tells where to -/
def keyT : List Int := [104, 108, 106, 107, 43, 45, 95, 71, 103, 48, 94, 36, 124, 119, 87, 98, 66, 101, 69, 102, 70, 116, 84, 37, 125, 123, 41, 40]
def howT : List Int := [0, 0, 2, 2, 2, 2, 2, 2, 2, 0, 0, 1, 0, 0, 0, 0, 0, 1, 1, 1, 0, 1, 0, 1, 0, 0, 0, 0]
def fnT : List FuncId := [16, 17, 18, 19, 20, 21, 22, 23, 24, 25, 26, 27, 28, 29, 29, 30, 30, 31, 31, 32, 33, 34, 35, 36, 37, 38, 39, 40]
theorem all28 {p : Nat → Prop} (h0 : p 0) ( h1 : p 1) ( h2 : p 2) ( h3 : p 3) ( h4 : p 4) ( h5 : p 5) ( h6 : p 6) ( h7 : p 7) ( h8 : p 8) ( h9 : p 9) ( h10 : p 10) ( h11 : p 11) ( h12 : p 12) ( h13 : p 13) ( h14 : p 14) ( h15 : p 15) ( h16 : p 16) ( h17 : p 17) ( h18 : p 18) ( h19 : p 19) ( h20 : p 20) ( h21 : p 21) ( h22 : p 22) ( h23 : p 23) ( h24 : p 24) ( h25 : p 25) ( h26 : p 26) ( h27 : p 27) {i : Nat} (hi : i < 28) : p i := by
  have h28 : i = 0 ∨ i = 1 ∨ i = 2 ∨ i = 3 ∨ i = 4 ∨ i = 5 ∨ i = 6 ∨ i = 7 ∨ i = 8 ∨ i = 9 ∨ i = 10 ∨ i = 11 ∨ i = 12 ∨ i = 13 ∨ i = 14 ∨ i = 15 ∨ i = 16 ∨ i = 17 ∨ i = 18 ∨ i = 19 ∨ i = 20 ∨ i = 21 ∨ i = 22 ∨ i = 23 ∨ i = 24 ∨ i = 25 ∨ i = 26 ∨ i = 27 := by omega
  rcases h28 with rfl | rfl | rfl | rfl | rfl | rfl | rfl | rfl | rfl | rfl | rfl | rfl | rfl | rfl | rfl | rfl | rfl | rfl | rfl | rfl | rfl | rfl | rfl | rfl | rfl | rfl | rfl | rfl
  · exact h0
  · exact h1
  · exact h2
  · exact h3
  · exact h4
  · exact h5
  · exact h6
  · exact h7
  · exact h8
  · exact h9
  · exact h10
  · exact h11
  · exact h12
  · exact h13
  · exact h14
  · exact h15
  · exact h16
  · exact h17
  · exact h18
  · exact h19
  · exact h20
  · exact h21
  · exact h22
  · exact h23
  · exact h24
  · exact h25
  · exact h26
  · exact h27
theorem fnT_run {i : Nat} (hi : i < 28) : ∀ (xs : Array Value) (W : World), Sem.run Try.prog (callFunc (fnT.getD i 0) xs) W = .ok (.enter (fnT.getD i 0) xs) W :=
  all28 (p := fun i => ∀ (xs : Array Value) (W : World), Sem.run Try.prog (callFunc (fnT.getD i 0) xs) W = .ok (.enter (fnT.getD i 0) xs) W) (fun _ _ => rfl) (fun _ _ => rfl) (fun _ _ => rfl) (fun _ _ => rfl) (fun _ _ => rfl) (fun _ _ => rfl) (fun _ _ => rfl) (fun _ _ => rfl) (fun _ _ => rfl) (fun _ _ => rfl) (fun _ _ => rfl) (fun _ _ => rfl) (fun _ _ => rfl) (fun _ _ => rfl) (fun _ _ => rfl) (fun _ _ => rfl) (fun _ _ => rfl) (fun _ _ => rfl) (fun _ _ => rfl) (fun _ _ => rfl) (fun _ _ => rfl) (fun _ _ => rfl) (fun _ _ => rfl) (fun _ _ => rfl) (fun _ _ => rfl) (fun _ _ => rfl) (fun _ _ => rfl) (fun _ _ => rfl) hi
theorem lead_any (F : Nat → Prop) (a : Option Addr) (n c l q : Nat) (key cnt arg want : Int) (op : Bool) (L : List (List Int)) (w : World) (h : RdL F w a n c L) (hp : okP L (l, q)) (ht : ((tms cnt : Nat) : Int) ≤ 9223372036854775807) (hw : i64b want) (hz : sizeN (lens L) ≤ 262144) {i : Nat} (hi : i < 28) (hk : keyT.getD i 0 = key) :
    Calls Try.prog (fnT.getD i 0) #[askL a n c l q ((tms cnt : Nat) : Int) key cnt arg want op] w fun e w' => ∃ r ok, e = .returned (.tuple #[r, .bool ok]) ∧ Below w.heap.size w w' ∧ Tells (mvP L (l, q) ⟨key, cnt, arg, want⟩ op) r ok (howT.getD i 0) := by
  subst hk
  exact all28 (p := fun i => Calls Try.prog (fnT.getD i 0) #[askL a n c l q ((tms cnt : Nat) : Int) (keyT.getD i 0) cnt arg want op] w fun e w' => ∃ r ok, e = .returned (.tuple #[r, .bool ok]) ∧ Below w.heap.size w w' ∧ Tells (mvP L (l, q) ⟨keyT.getD i 0, cnt, arg, want⟩ op) r ok (howT.getD i 0))
    (row104 F a n c l q cnt arg want op L w h hp ht hw hz)
    (row108 F a n c l q cnt arg want op L w h hp ht hw hz)
    (row106 F a n c l q cnt arg want op L w h hp ht hw hz)
    (row107 F a n c l q cnt arg want op L w h hp ht hw hz)
    (row43 F a n c l q cnt arg want op L w h hp ht hw hz)
    (row45 F a n c l q cnt arg want op L w h hp ht hw hz)
    (row95 F a n c l q cnt arg want op L w h hp ht hw hz)
    (row71 F a n c l q cnt arg want op L w h hp ht hw hz)
    (row103 F a n c l q cnt arg want op L w h hp ht hw hz)
    (row48 F a n c l q cnt arg want op L w h hp ht hw hz)
    (row94 F a n c l q cnt arg want op L w h hp ht hw hz)
    (row36 F a n c l q cnt arg want op L w h hp ht hw hz)
    (row124 F a n c l q cnt arg want op L w h hp ht hw hz)
    (row119 F a n c l q cnt arg want op L w h hp ht hw hz)
    (row87 F a n c l q cnt arg want op L w h hp ht hw hz)
    (row98 F a n c l q cnt arg want op L w h hp ht hw hz)
    (row66 F a n c l q cnt arg want op L w h hp ht hw hz)
    (row101 F a n c l q cnt arg want op L w h hp ht hw hz)
    (row69 F a n c l q cnt arg want op L w h hp ht hw hz)
    (row102 F a n c l q cnt arg want op L w h hp ht hw hz)
    (row70 F a n c l q cnt arg want op L w h hp ht hw hz)
    (row116 F a n c l q cnt arg want op L w h hp ht hw hz)
    (row84 F a n c l q cnt arg want op L w h hp ht hw hz)
    (row37 F a n c l q cnt arg want op L w h hp ht hw hz)
    (row125 F a n c l q cnt arg want op L w h hp ht hw hz)
    (row123 F a n c l q cnt arg want op L w h hp ht hw hz)
    (row41 F a n c l q cnt arg want op L w h hp ht hw hz)
    (row40 F a n c l q cnt arg want op L w h hp ht hw hz)
    hi
theorem mvP_no {L : List (List Int)} {p : Pl} {key cnt arg want : Int} {op : Bool} (h : ∀ i, i < 28 → ¬ keyT.getD i 0 = key) : mvP L p ⟨key, cnt, arg, want⟩ op = none := by
  have k104 : ¬ key = 104 := fun e => h 0 (by omega) e.symm
  have k108 : ¬ key = 108 := fun e => h 1 (by omega) e.symm
  have k106 : ¬ key = 106 := fun e => h 2 (by omega) e.symm
  have k107 : ¬ key = 107 := fun e => h 3 (by omega) e.symm
  have k43 : ¬ key = 43 := fun e => h 4 (by omega) e.symm
  have k45 : ¬ key = 45 := fun e => h 5 (by omega) e.symm
  have k95 : ¬ key = 95 := fun e => h 6 (by omega) e.symm
  have k71 : ¬ key = 71 := fun e => h 7 (by omega) e.symm
  have k103 : ¬ key = 103 := fun e => h 8 (by omega) e.symm
  have k48 : ¬ key = 48 := fun e => h 9 (by omega) e.symm
  have k94 : ¬ key = 94 := fun e => h 10 (by omega) e.symm
  have k36 : ¬ key = 36 := fun e => h 11 (by omega) e.symm
  have k124 : ¬ key = 124 := fun e => h 12 (by omega) e.symm
  have k119 : ¬ key = 119 := fun e => h 13 (by omega) e.symm
  have k87 : ¬ key = 87 := fun e => h 14 (by omega) e.symm
  have k98 : ¬ key = 98 := fun e => h 15 (by omega) e.symm
  have k66 : ¬ key = 66 := fun e => h 16 (by omega) e.symm
  have k101 : ¬ key = 101 := fun e => h 17 (by omega) e.symm
  have k69 : ¬ key = 69 := fun e => h 18 (by omega) e.symm
  have k102 : ¬ key = 102 := fun e => h 19 (by omega) e.symm
  have k70 : ¬ key = 70 := fun e => h 20 (by omega) e.symm
  have k116 : ¬ key = 116 := fun e => h 21 (by omega) e.symm
  have k84 : ¬ key = 84 := fun e => h 22 (by omega) e.symm
  have k37 : ¬ key = 37 := fun e => h 23 (by omega) e.symm
  have k125 : ¬ key = 125 := fun e => h 24 (by omega) e.symm
  have k123 : ¬ key = 123 := fun e => h 25 (by omega) e.symm
  have k41 : ¬ key = 41 := fun e => h 26 (by omega) e.symm
  have k40 : ¬ key = 40 := fun e => h 27 (by omega) e.symm
  have hst : stepK L key = none := by
    unfold stepK
    rw [if_neg k119, if_neg k87, if_neg k98, if_neg k66, if_neg k101, if_neg k69, if_neg k125, if_neg k123, if_neg k41, if_neg k40]
  unfold mvP
  simp only [hst]
  rw [if_neg k104, if_neg k108, if_neg k106, if_neg k107, if_neg k43, if_neg k45, if_neg k95, if_neg k71, if_neg k103, if_neg k48, if_neg k94, if_neg k36, if_neg k124, if_neg k102, if_neg k70, if_neg k116, if_neg k84, if_neg k37]
theorem mvP_all {L : List (List Int)} {p : Pl} {key cnt arg want : Int} {op : Bool} (h : ∀ i, i < 28 → keyT.getD i 0 = key → mvP L p ⟨key, cnt, arg, want⟩ op = none) : mvP L p ⟨key, cnt, arg, want⟩ op = none := by
  by_cases hk : ∃ i, i < 28 ∧ keyT.getD i 0 = key
  · obtain ⟨i, hi, hk⟩ := hk
    exact h i hi hk
  · exact mvP_no (fun i hi e => hk ⟨i, hi, e⟩)
theorem results_ctt {fn : Func} {p q r : Tmp} {ty : TypeId} (h : fn.results = #[.cell p ty, .tmp q, .tmp r]) (tmps : Array Value) (P : Program) (w : World) :
    (results fn tmps).run P w = ((asAddr (tmps.getD p undef)).run P w).andThen fun a w₁ => ((loadVar ty a).run P w₁).andThen fun v w₂ => .ok (.tuple #[v, tmps.getD q undef, tmps.getD r undef]) w₂ := by
  simp only [results, h]
  simp [Sem.run_bind, Result.andThen]
/-- the table's cells -/
def tabV : List Value := ((List.range 28).map fun i => [Value.int .i32 (keyT.getD i 0), Value.int .i64 (howT.getD i 0), Value.func (.func (fnT.getD i 0)) #[] #[]]).flatten
theorem tab_at {i : Nat} (hi : i < 28) : tabV[i * 3]? = some (.int .i32 (keyT.getD i 0)) ∧ tabV[i * 3 + 1]? = some (.int .i64 (howT.getD i 0)) ∧ tabV[i * 3 + 2]? = some (.func (.func (fnT.getD i 0)) #[] #[]) :=
  all28 (p := fun i => tabV[i * 3]? = some (.int .i32 (keyT.getD i 0)) ∧ tabV[i * 3 + 1]? = some (.int .i64 (howT.getD i 0)) ∧ tabV[i * 3 + 2]? = some (.func (.func (fnT.getD i 0)) #[] #[])) ⟨rfl, rfl, rfl⟩ ⟨rfl, rfl, rfl⟩ ⟨rfl, rfl, rfl⟩ ⟨rfl, rfl, rfl⟩ ⟨rfl, rfl, rfl⟩ ⟨rfl, rfl, rfl⟩ ⟨rfl, rfl, rfl⟩ ⟨rfl, rfl, rfl⟩ ⟨rfl, rfl, rfl⟩ ⟨rfl, rfl, rfl⟩ ⟨rfl, rfl, rfl⟩ ⟨rfl, rfl, rfl⟩ ⟨rfl, rfl, rfl⟩ ⟨rfl, rfl, rfl⟩ ⟨rfl, rfl, rfl⟩ ⟨rfl, rfl, rfl⟩ ⟨rfl, rfl, rfl⟩ ⟨rfl, rfl, rfl⟩ ⟨rfl, rfl, rfl⟩ ⟨rfl, rfl, rfl⟩ ⟨rfl, rfl, rfl⟩ ⟨rfl, rfl, rfl⟩ ⟨rfl, rfl, rfl⟩ ⟨rfl, rfl, rfl⟩ ⟨rfl, rfl, rfl⟩ ⟨rfl, rfl, rfl⟩ ⟨rfl, rfl, rfl⟩ ⟨rfl, rfl, rfl⟩ hi
set_option maxHeartbeats 1000000 in
theorem rows_any (w : World) :
    Calls Try.prog 14 #[] w fun e w' => ∃ B : Nat, e = .returned (.slice (some ⟨B, 0, none⟩) 28 28) ∧ Below w.heap.size w w' ∧ Hid (∀ i, i < 28 → w'.cell? ⟨B, i * 3, none⟩ = some (.int .i32 (keyT.getD i 0)) ∧ w'.cell? ⟨B, i * 3 + 1, none⟩ = some (.int .i64 (howT.getD i 0)) ∧ w'.cell? ⟨B, i * 3 + 2, none⟩ = some (.func (.func (fnT.getD i 0)) #[] #[])) := by
  have HT : Hid (∀ (A : Array Value) (W : World), A = tabV.toArray → ∀ i, i < 28 → (W.alloc (.cells A 45)).cell? ⟨W.heap.size, i * 3, none⟩ = some (.int .i32 (keyT.getD i 0)) ∧ (W.alloc (.cells A 45)).cell? ⟨W.heap.size, i * 3 + 1, none⟩ = some (.int .i64 (howT.getD i 0)) ∧ (W.alloc (.cells A 45)).cell? ⟨W.heap.size, i * 3 + 2, none⟩ = some (.func (.func (fnT.getD i 0)) #[] #[])) := by
    intro A W hA i hi
    subst hA
    have hn := heap_alloc_new W (.cells tabV.toArray 45)
    obtain ⟨h1, h2, h3⟩ := tab_at hi
    exact ⟨(cell_row hn _).trans (by simpa using h1), (cell_row hn _).trans (by simpa using h2), (cell_row hn _).trans (by simpa using h3)⟩
  go_enter Try.func14, Try.ntmps14
  go_wp2
  go_ret
  exact ⟨w.heap.size, rfl, bal w _, HT.out _ w (by rfl)⟩
end Go.Proofs.Ytikdojebnbmpoaa.U
