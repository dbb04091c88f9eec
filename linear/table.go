package linear

import (
	"slices"

	"putlog/api"
)

// table is a state of the simplex method. Each equation has a helper, a further variable that occurs in no other equation; its coefficient is 1, or -1 if Value is negative. As many variables and helpers as there are equations are the members: with all others 0, they solve the equations, and none of them is negative. Members are exchanged until the sum of the helpers is least. It is 0 exactly if the equations have a solution without help.
type table struct {
	// columns has the coefficients of each variable.
	columns [][]int
	// members has the indices of variables, and negative numbers for helpers.
	members []int
	// rows has, for each member, its row of the inverse of the matrix of the members' coefficients, and then its value. One more row is the sum of those of the helpers: a weight for each equation, and then the sum of the helpers. All of this is multiplied by common, the absolute value of the matrix's determinant, which makes integers of it.
	rows   [][]number
	common number
	// stalled says that the last exchange did not change the sum of the helpers.
	stalled bool
}

// newTable returns the table of s, which is valid, in which all members are helpers.
func newTable(s api.System) *table {
	n := len(s.Rows)
	t := &table{columns: columns(s), common: whole(1)}
	all := make([]number, n+1)
	for k, row := range s.Rows {
		sign := 1
		if row.Value < 0 {
			sign = -1
		}
		helper := make([]number, n+1)
		helper[k], helper[n] = whole(sign), whole(sign*row.Value)
		for i := range all {
			all[i].add(&helper[i], 1, 0)
		}
		t.members, t.rows = append(t.members, k-n), append(t.rows, helper)
	}
	t.rows = append(t.rows, all)
	return t
}

// columns returns the coefficients of each variable of s, which is valid.
func columns(s api.System) [][]int {
	l := make([][]int, s.Cols)
	for j := range l {
		for _, row := range s.Rows {
			l[j] = append(l[j], row.Coef[j])
		}
	}
	return l
}

// values returns the Values of the rows of s.
func values(s api.System) []int {
	var l []int
	for _, row := range s.Rows {
		l = append(l, row.Value)
	}
	return l
}

// solved reports whether the sum of the helpers is 0.
func (t *table) solved() bool {
	n := len(t.members)
	return t.rows[n][n].sign() == 0
}

// entering returns a variable that lowers the sum of the helpers if it grows, or false if there is none.
func (t *table) entering() (int, bool) {
	var best int
	var most number
	weights := t.rows[len(t.members)]
	for j, column := range t.columns {
		gain := weighted(column, weights)
		if gain.minus(most).sign() <= 0 {
			continue
		}
		best, most = j, gain
		// The variable that gains most soon leads to the end; but where nothing changes, it may lead around in a circle. The first one that gains does not, as leaving breaks ties by the least index, too (Bland's rule).
		if t.stalled {
			break
		}
	}
	return best, most.sign() > 0
}

// exchange makes the variable j, which lowers the sum of the helpers if it grows, a member, instead of the one that is the first to become 0 then.
func (t *table) exchange(j int) {
	n := len(t.members)
	falls := make([]number, n+1)
	for k, row := range t.rows {
		falls[k] = weighted(t.columns[j], row)
	}
	out := t.leaving(falls)
	leaves := t.rows[out]
	t.stalled = leaves[n].sign() == 0
	divide := dividing(t.common)
	for k, row := range t.rows {
		if k == out {
			continue
		}
		for i := range row {
			row[i] = divide(row[i].times(falls[out]).minus(leaves[i].times(falls[k])))
		}
	}
	t.members[out], t.common = j, falls[out]
}

// leaving returns which member is the first to become 0, if they fall in these proportions; of several ones, it is that with the least index. There is one, as a helper falls if the sum of the helpers does.
func (t *table) leaving(falls []number) int {
	n, out := len(t.members), -1
	for k, member := range t.members {
		if falls[k].sign() <= 0 {
			continue
		}
		if out < 0 {
			out = k
			continue
		}
		later := t.rows[k][n].times(falls[out]).minus(t.rows[out][n].times(falls[k])).sign()
		if later < 0 || later == 0 && member < t.members[out] {
			out = k
		}
	}
	return out
}

// point returns the values of all variables, those that are no members being 0.
func (t *table) point() api.Vector {
	n := len(t.members)
	nums := slices.Repeat([]string{zero}, len(t.columns))
	for k, member := range t.members {
		if member >= 0 {
			nums[member] = t.rows[k][n].text()
		}
	}
	return lowest(nums, t.common.text())
}

// weights returns weights that refute the system, if the sum of the helpers is least, and not 0.
func (t *table) weights() []string {
	n := len(t.members)
	l := make([]string, n)
	for k, weight := range t.rows[n][:n] {
		l[k] = number{}.minus(weight).text()
	}
	return divided(l)
}
