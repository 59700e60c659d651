package schema

import (
	"strings"

	"vellum/api"
	"vellum/value"
)

// kindWords is the kinds' words in texts; no column has KindNull.
var kindWords = [...]string{
	api.KindBool:  "bool",
	api.KindInt:   "int",
	api.KindFloat: "float",
	api.KindText:  "text",
	api.KindBytes: "bytes",
}

// Print is a table's text.
func Print(t api.Table) (string, api.Errno) {
	if err := Check(t); err != api.OK {
		return "", err
	}
	var parts []string
	for _, c := range t.Columns {
		parts = append(parts, columnText(c))
	}
	parts = append(parts, "primary key "+listText(t, t.Key))
	for _, index := range t.Indexes {
		parts = append(parts, indexText(t, index))
	}
	for _, ref := range t.Refs {
		parts = append(parts, "foreign key "+listText(t, ref.Columns)+" references "+ref.Table)
	}
	text := "create table " + t.Name + " (\n  " + strings.Join(parts, ",\n  ") + "\n)\n"
	if len(text) > api.MaxText {
		return "", api.ErrLong
	}
	return text, api.OK
}

func columnText(c api.Column) string {
	text := c.Name + " " + kindWords[c.Kind]
	if !c.Null {
		text += " not null"
	}
	if c.Default.Kind != api.KindNull {
		// A default of a table that may be has a text.
		written, _ := value.Text(c.Default)
		text += " default " + written
	}
	return text
}

func indexText(t api.Table, index api.Index) string {
	text := "index " + index.Name + " " + listText(t, index.Columns)
	if index.Unique {
		return "unique " + text
	}
	return text
}

func listText(t api.Table, columns []int) string {
	var names []string
	for _, column := range columns {
		names = append(names, t.Columns[column].Name)
	}
	return "(" + strings.Join(names, ", ") + ")"
}
